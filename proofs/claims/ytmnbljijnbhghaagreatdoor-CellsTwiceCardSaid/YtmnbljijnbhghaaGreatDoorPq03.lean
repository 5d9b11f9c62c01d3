/- Contracts that the law leans on: Cemv Cemp. -/
import Derived.Deep.AppendLies
import Derived.Deep.RegionHeld3
import Derived.BigQuiet
import Derived.Deep.QuietTactic
import Derived.Lib.ItoaNum
import Derived.OwnWalk
import Derived.Deep.RegionLawGrows
import Derived.Laws.FloatArith
import Derived.WalkLawsBesides
import Derived.Laws.Externs
import Derived.Laws.BitsAllLaws
import Derived.Lib.Hide
import Derived.Shelf.Spec.TrailingZeros
import Derived.Laws.Bits64b
import Derived.Lib.BitFns
import Derived.Lib.Small
import Derived.Lib.Strings
import Derived.Lib.Slices
import Derived.Lib.Walk
import Derived.WalkKit
import Derived.WalkSpells
import Derived.WalkSmall
import Derived.Laws.Bits64
import Derived.Deep.Draws
import Derived.Deep.DeepCutAuto
import Derived.Laws.BytesArg
import Derived.Deep.LoopGhost
import Derived.Deep.RegionLaw
import Derived.Outline
import Derived.Deep.RegionWith
import Derived.RegionTactic
import Derived.ChangeAlike
import Derived.Laws.IdiomStrings
import Derived.ProofKit
import Derived.LaidMore
import Derived.OpenShut
import Derived.Stop.Joined
import Derived.Lib.LaidTab
import Derived.ChangeSlices
import Derived.Deep.CutBlock
import Derived.Deep.RegionHeld
import Derived.Deep.DrawnRows
import Derived.Lib.AppendZeros
import Derived.Maps.OwnSet
import Derived.Below
import Derived.SliceStrings
import Derived.Deep.CutRange
import Derived.Deep.Slices
import Derived.Deep.Fields
import Derived.ChangeSame
import Derived.Lib.SmallJoins
import Derived.Lib.Bytealg
import Derived.Lib.ConvBytes
import Derived.Laws.CopyRow
import Derived.Laws.IdiomCopy
import Derived.Laws.OwnMore
import Derived.Laws.MakeOwn
import Derived.Maps.Ext
import Derived.Maps.RangeWalk
import Derived.Sort.OwnSorted
import Derived.Shelf.SlSortCmp.WholeK
import Derived.Shelf.SlSortCmp.NoneTotal
import Derived.Test.YtmnbljijnbhghaaGreatDoorProg
import Derived.Test.YtmnbljijnbhghaaGreatDoorRows
import Derived.Test.YtmnbljijnbhghaaGreatDoorPq01
import Derived.Test.YtmnbljijnbhghaaGreatDoorPq02
import Derived.Test.YtmnbljijnbhghaaGreatDoorPt01
import Derived.Test.YtmnbljijnbhghaaGreatDoorPt02
import Derived.Test.YtmnbljijnbhghaaGreatDoorPt03
import Derived.Test.YtmnbljijnbhghaaGreatDoorPt04
import Derived.Test.YtmnbljijnbhghaaGreatDoorPt05
import Derived.Test.YtmnbljijnbhghaaGreatDoorPt06
import Derived.Test.YtmnbljijnbhghaaGreatDoorPt07
import Derived.Test.YtmnbljijnbhghaaGreatDoorPt08
import Derived.Test.YtmnbljijnbhghaaGreatDoorPt09
import Derived.Test.YtmnbljijnbhghaaGreatDoorPt10
import Derived.Test.YtmnbljijnbhghaaGreatDoorPt11
import Derived.Test.YtmnbljijnbhghaaGreatDoorPt12
import Derived.Test.YtmnbljijnbhghaaGreatDoorPt13
import Derived.Test.YtmnbljijnbhghaaGreatDoorPt14
import Derived.Test.YtmnbljijnbhghaaGreatDoorPt15
import Derived.Test.YtmnbljijnbhghaaGreatDoorPt16
import Derived.Test.YtmnbljijnbhghaaGreatDoorPt17
import Derived.Test.YtmnbljijnbhghaaGreatDoorPt18
import Derived.Test.YtmnbljijnbhghaaGreatDoorPt19
import Derived.Test.YtmnbljijnbhghaaGreatDoorPt20
import Derived.Test.YtmnbljijnbhghaaGreatDoorPt21
import Derived.Test.YtmnbljijnbhghaaGreatDoorPt22
import Derived.Test.YtmnbljijnbhghaaGreatDoorPt23
import Derived.Test.YtmnbljijnbhghaaGreatDoorPt24
import Derived.Test.YtmnbljijnbhghaaGreatDoorPt25
import Derived.Test.YtmnbljijnbhghaaGreatDoorPt26
import Derived.Test.YtmnbljijnbhghaaGreatDoorPt27
import Derived.Test.YtmnbljijnbhghaaGreatDoorPt28
import Derived.Test.YtmnbljijnbhghaaGreatDoorPt29
import Derived.Test.YtmnbljijnbhghaaGreatDoorPt30
import Derived.Test.YtmnbljijnbhghaaGreatDoorPt31
import Derived.Test.YtmnbljijnbhghaaGreatDoorPt32
import Derived.Test.YtmnbljijnbhghaaGreatDoorPt33
namespace Go.Proofs.YtmnbljijnbhghaaGreatDoor
set_option maxRecDepth 100000
open Go.RowKit
set_option linter.unusedVariables false
theorem zxck {ni nn:Nat} {G:List Ce} (hl:∀ x ∈ G,Lf ni nn x) {k:Nat} (hk:k < ni):sumZ (fun x => wv (wg x.is k).sq) G ≤ G.length * 85070591730234615865843651857942052864:=by
 induction G with
 | nil => simp [sumZ]
 | cons a G ih =>
  rw [zxaa,List.length_cons];have h1:=ih fun x hx => hl x (List.mem_cons_of_mem _ hx)
  have h2:=(hl a (List.mem_cons_self ..)).sq k hk;omega
theorem zxcb {ni nn:Nat} {c:Ce} {G:List Ce} (h:Rep ni nn c G) (hw:CeW c) (hl:∀ z ∈ G,Lf ni nn z) (hn:G.length ≤ 1000) (h1:ni ≤ 10) (h2:nn ≤ 10):Sv 1 c ∧ ∀ k,k < c.is.length → (wg c.is k).sq.length ≤ 5:=by
 have hv:∀ k,k < ni → wv (wg c.is k).sq ≤ 85070591730234615865843651857942052864000:=fun k hk => by
  have:=zxck hl hk;rw [h.sq k hk];omega
 have h5:∀ k,k < ni → (wg c.is k).sq.length ≤ 5:=fun k hk => (h.ty k hk).wlen (h.wd k hk) (n:=5) (Int.lt_of_le_of_lt (hv k hk) (by decide))
 refine ⟨⟨hw,⟨by rw [h.li]; exact h1,by rw [h.ln]; exact h2,fun k hk => ?_⟩,fun k hk => ?_⟩,fun k hk => h5 k (by rw [← h.li]; exact hk)⟩
 ·have hk2:k < ni:=by rw [← h.li]; exact hk
  have:=h5 k hk2;exact ⟨by omega,Int.le_trans (hv k hk2) (by decide)⟩
 ·have hk2:k < nn:=by rw [← h.ln]; exact hk
  have:=(zqxf (h.bt k hk2) (h.er k hk2)).len;omega
theorem zxa8 {g:Ce → List Ce}:∀ L:List Ce,(∀ c ∈ L,g c ≠ []) → L.length ≤ (L.flatMap g).length
 | [],_ => Nat.zero_le _
 | c :: L,h => by
  rw [List.flatMap_cons,List.length_append,List.length_cons];have h1:=zxa8 L fun d hd => h d (List.mem_cons_of_mem _ hd)
  have h2:=List.length_pos_iff.2 (h c (List.mem_cons_self ..));omega
theorem RepL.len {ni nn:Nat} {κ:Ce → Int} {L Fs:List Ce} (h:RepL ni nn κ L Fs):L.length ≤ Fs.length:=by
 rw [← h.groups.length_eq];exact zxa8 L fun c hc => (h.c c hc).ne
structure Ctx (S:Sc) (C:List Ce):Prop where
 ck:checkL S = 0
 lf:∀ z ∈ C,Lf S.is.length S.ns.length z
 le:C.length ≤ 200
structure FacL (S:Sc) (κ:Ce → Int) (L C:List Ce):Prop where
 rp:RepL S.is.length S.ns.length κ L C
 w:∀ c ∈ L,CeW c
theorem FacL.sv {S:Sc} {κ:Ce → Int} {L C:List Ce} (h:FacL S κ L C) (x:Ctx S C):∀ c ∈ L,Sv 1 c ∧ ∀ k,k < c.is.length → (wg c.is k).sq.length ≤ 5:=fun c hc => by
 have h3:=zqcc.1 (zqga x.ck).1;refine zxcb (h.rp.c c hc) (h.w c hc) (fun z hz => x.lf z (zxaf.1 hz).1) ?_ (by omega) (by omega)
 have:(grp κ c.key C).length ≤ C.length:=List.length_filter_le ..;have:=x.le;omega
theorem FacL.big {S:Sc} {κ:Ce → Int} {L C:List Ce} (h:FacL S κ L C) (x:Ctx S C):bigB L = false:=by
 cases e:bigB L with
 | false => rfl
 | true =>
  obtain ⟨c,hc,h1⟩:=List.any_eq_true.1 e;obtain ⟨y,hy,h2⟩:=List.any_eq_true.1 h1;obtain ⟨k,hk,rfl⟩:=List.getElem_of_mem hy;have h3:=(h.sv x c hc).2 k hk;rw [zqaq hk] at h3;have:=of_decide_eq_true h2;omega
theorem zxan {S:Sc} {a b:Int} {κ κ':Ce → Int} {L C:List Ce} (x:Ctx S C) (h:FacL S κ L C) (hr:rightL S a L = true) (hs:subM b a = true) (a0:0 ≤ a) (b0:0 ≤ b) (b1:b ≤ 4294967295) (hk:∀ c ∈ L,∀ f ∈ C,κ f = c.key → κ' f = downL S a b c.key) :
  ((rollE S a b L).1 = 0 → FacL S κ' (rollE S a b L).2 C ∧ rightL S b (rollE S a b L).2 = true) ∧ ((∀ q,OkG S.is.length (grp κ' q C)) → (rollE S a b L).1 = 0):=by
 have he:rollE S a b L = foldC [] (L.map (rkC S a b)):=by unfold rollE; rw [if_pos hr,if_pos hs]
 have hsv:=h.sv x;have hll:L.length ≤ 200:=Nat.le_trans h.rp.len x.le;have hi:InvS (rkC S a b) [] L:=⟨1,Nat.le_refl _,by omega,(fun z hz => nomatch hz),fun c hc => (hsv c hc).1.key _ (zqv2 b0 b1)⟩
 have hg:∀ c ∈ L,Rep S.is.length S.ns.length (rkC S a b c) (grp κ c.key C) ∧ CeW (rkC S a b c) ∧ ∀ f ∈ grp κ c.key C,κ' f = (rkC S a b c).key:=fun c hc =>
  ⟨(h.rp.c c hc).key _,((hsv c hc).1.key _ (zqv2 b0 b1)).1,fun f hf => hk c hc f (zxaf.1 hf).1 (zxaf.1 hf).2⟩
 have hp:=h.rp.groups
 constructor
 ·intro h0;have h0':=h0;rw [he] at h0';obtain ⟨f1,f2⟩:=RepL.fold (invS (rkC S a b)) L (RepL.nil S.is.length S.ns.length κ') hi hg h0';rw [List.nil_append] at f1;obtain ⟨n,-,-,f3,-⟩:=f2;have hF:FacL S κ' (rollE S a b L).2 C:=by
   rw [he];exact ⟨f1.perm hp,fun c hc => (f3 c hc).1⟩
  exact ⟨hF,zxbr (fun c hc => (hsv c hc).1) (by omega) a0 b0 b1 h0 (hF.big x)⟩
 ·intro ho;rw [he];refine zxbf (invS (rkC S a b)) L (RepL.nil S.is.length S.ns.length κ') hi hg (fun q => ?_) (fun z hz => ?_) ?_
  ·rw [List.nil_append];exact (ho q).perm (hp.filter _).symm
  ·rw [List.nil_append] at hz;exact x.lf z (hp.mem_iff.1 hz)
  ·rw [List.nil_append,hp.length_eq];have:=x.le;omega
theorem zxat {a b c:Int} (b0:0 ≤ b) (b1:b ≤ 4294967295) (c0:0 ≤ c) (c1:c ≤ 4294967295) (h:subM c b = true) (k:subM b a = true):subM c a = true :=
 (zqg8 c0 c1).2 fun i hi => (zqg8 b0 b1).1 k i ((zqg8 c0 c1).1 h i hi)
theorem zxbd {S:Sc} {m a b:Int} {c:Ce} (h:rightC S m c = true) (ha:subM a m = true) (hb:subM b a = true) (m0:0 ≤ m) (a0:0 ≤ a) (a1:a ≤ 4294967295) (b0:0 ≤ b) (b1:b ≤ 4294967295):downL S a b (downL S m a c.key) = downL S m b c.key:=by
 have h1:=zxbb h ha m0 a0 a1;have h2:=zxae h1 hb;have h3:=zxae h ha;have h4:=zxae h (zxat a0 a1 b0 b1 hb ha);have hck:checkL S = 0:=by
  unfold rightC at h;simp only [Bool.and_eq_true,decide_eq_true_eq] at h;exact h.1.1
 rw [h4];refine h2.trans ?_;rw [show (rkC S m a c).key = downL S m a c.key from rfl,h3];exact zxbm (zqdg (zqeb hck).2) (fun k _ => (zqg8 a0 a1).1 ha k) (fun k _ => (zqg8 b0 b1).1 hb k) _
theorem zxb3 {S:Sc} {m:Int} {l:List Fa} (hf:∀ f ∈ l,FaWf f) (he:(foldE S m l).1 = 0):Ctx S (l.map (celC S m)) ∧ FacL S (fun c => c.key) (foldE S m l).2 (l.map (celC S m)) ∧ rightL S m (foldE S m l).2 = true:=by
 have h:=zxad hf he;exact ⟨⟨h.ck,fun z hz => (h.leaf z hz).2.2,by rw [List.length_map]; exact h.le⟩,⟨h.rep he,zxaw hf⟩,(zxai hf he).1⟩
theorem zxbv {S:Sc} {m b:Int} {l:List Fa} (hf:∀ f ∈ l,FaWf f) (he:(foldE S m l).1 = 0) (h2:(foldE S b l).1 = 0) (hs:subM b m = true) (m0:0 ≤ m) (b0:0 ≤ b) (b1:b ≤ 4294967295):FacL S (fun c => downL S m b c.key) (foldE S b l).2 (l.map (celC S m)):=by
 have hm:=zxad hf he;have hb:=zxad hf h2;have e:l.map (celC S b) = (l.map (celC S m)).map (rkC S m b):=by
  rw [List.map_map];exact List.map_congr_left fun f hfl => zxb0 (hf f hfl) (hm.on f hfl) hs m0 b0 b1
 have hi:=hb.is;rw [List.map_id,e] at hi;have h2':=h2;rw [hi] at h2';have hgr:∀ c ∈ l.map (celC S m),Rep S.is.length S.ns.length (rkC S m b c) [c] ∧ CeW (rkC S m b c) ∧ ∀ f ∈ [c],downL S m b f.key = (rkC S m b c).key:=fun c hc => by
  obtain ⟨k1,k2,-⟩:=hm.leaf c hc;exact ⟨(zxaz k1 k2.1).key _,(k2.key _ (zqv2 b0 b1)).1,fun f hfc => by rw [List.mem_singleton.1 hfc]; rfl⟩
 have hin:InvS (rkC S m b) [] (l.map (celC S m)):=⟨1,Nat.le_refl _,by rw [List.length_map]; have:=hm.le; omega,(fun z hz => nomatch hz),fun c hc => (hm.leaf c hc).2.1.key _ (zqv2 b0 b1)⟩
 have f1:=(RepL.fold (invS (rkC S m b)) (g:=fun c => [c]) (l.map (celC S m)) (RepL.nil S.is.length S.ns.length fun c => downL S m b c.key) hin hgr h2').1
 rw [List.nil_append,singles,← hi] at f1;exact ⟨f1,zxaw hf⟩
theorem zxbz {S:Sc} {m a b:Int} {l:List Fa} (hf:∀ f ∈ l,FaWf f) (m0:0 ≤ m) (a0:0 ≤ a) (a1:a ≤ 4294967295) (b0:0 ≤ b) (b1:b ≤ 4294967295) (ha:subM a m = true) (hb:subM b a = true) (he:(foldE S m l).1 = 0) (h2:(foldE S b l).1 = 0) :
  (rollE S m b (foldE S m l).2).1 = 0 ∧ eqsC (rollE S m b (foldE S m l).2).2 (foldE S b l).2 = true ∧ ((rollE S m a (foldE S m l).2).1 = 0 → (rollE S a b (rollE S m a (foldE S m l).2).2).1 = 0 ∧ eqsC (rollE S a b (rollE S m a (foldE S m l).2).2).2 (rollE S m b (foldE S m l).2).2 = true) ∧
  (∀ c ∈ (foldE S m l).2,Sv 1 c) ∧ (foldE S m l).2.length ≤ 200 ∧ ((rollE S m a (foldE S m l).2).1 = 0 → (∀ c ∈ (rollE S m a (foldE S m l).2).2,Sv 1 c) ∧ (rollE S m a (foldE S m l).2).2.length ≤ 200):=by
 have hbm:=zxat a0 a1 b0 b1 hb ha;obtain ⟨x,F1,hr⟩:=zxb3 hf he;have F2:=zxbv hf he h2 hbm m0 b0 b1;have hok:=F2.rp.ok F2.w;obtain ⟨z1,z2⟩:=zxan (κ':=fun c => downL S m b c.key) x F1 hr hbm m0 b0 b1 fun c _ f _ e => by rw [e]
 have hz:=z2 hok;obtain ⟨Fz,-⟩:=z1 hz;obtain ⟨x1,-⟩:=zxan (κ':=fun c => downL S m a c.key) x F1 hr ha m0 a0 a1 fun c _ f _ e => by rw [e]
 refine ⟨hz,Fz.rp.same F2.rp,fun hx => ?_,fun c hc => (F1.sv x c hc).1,Nat.le_trans F1.rp.len x.le,fun hx => ?_⟩
 ·obtain ⟨Fx,hrx⟩:=x1 hx;obtain ⟨y1,y2⟩:=zxan (κ':=fun c => downL S m b c.key) x Fx hrx hb a0 b0 b1 fun c _ f hfc e => by
   obtain ⟨k1,-,-⟩:=(zxad hf he).leaf f hfc;rw [← e];exact (zxbd k1 ha hb m0 a0 a1 b0 b1).symm
  have hy:=y2 hok;obtain ⟨Fy,-⟩:=y1 hy;exact ⟨hy,Fy.rp.same Fz.rp⟩
 ·obtain ⟨Fx,-⟩:=x1 hx;exact ⟨fun c hc => (Fx.sv x c hc).1,Nat.le_trans Fx.rp.len x.le⟩
end Go.Proofs.YtmnbljijnbhghaaGreatDoor
namespace Go.Proofs.YtmnbljijnbhghaaGreatDoor
set_option maxRecDepth 100000
open Go.RowKit
set_option linter.unusedVariables false
theorem zxah:Tryz.prog.cellsOf 56 = 2 ∧ Tryz.prog.cellsOf 27 = 1:=by
 refine ⟨?_,?_⟩ <;> kernel_rfl
open Go.ChangeShapes Go.WideShapes Go.Deep in
theorem zxb7 {H:Type} {enc:TypeId × Value → H} {w:World} {base:Nat} {spare:Nat → Bool} {held:Bool} {r:Reach} {b0:Nat} {v:Value} {d:DataW H} {p:List MemPlace}
  (hv:Value.okWide Tryz.prog w r b0 56 v) (h:DataW.Trod enc Tryz.prog w base spare held 56 v d p) :
  ∃ x y:Int,v = .agg #[.int .u32 x,.int .u32 y] ∧ (0 ≤ x ∧ x ≤ 4294967295) ∧ (0 ≤ y ∧ y ≤ 4294967295):=by
 obtain ⟨cs,rfl,hsz⟩:=zxbs Tryz.underlying56 zxah.1 hv;obtain ⟨fuel,h⟩:=h;obtain ⟨xs,m,-,hx,hlen,hxl,hf⟩:=DataW.trod_array Tryz.underlying56 h;obtain ⟨l⟩:=cs;rw [zxah.2] at hf
 match l,hsz with
 | [c0,c1],_ =>
  match xs,hxl with
  | [y0,y1],_ =>
   have h0:=hf 0 (by decide)
   have h1:=hf 1 (by decide)
   obtain ⟨m0,e0,-,w0⟩:=DataW.trod_int Tryz.underlying27 h0;obtain ⟨m1,e1,-,w1⟩:=DataW.trod_int Tryz.underlying27 h1;cases e0; cases e1
   simp [Lit.wf,IntKind.min,IntKind.max,IntKind.signed,IntKind.bits] at w0 w1;exact ⟨m0,m1,rfl,by omega,by omega⟩
def Box2S (w:World) (N:Nat) (a b:Int):Prop:=w.heap[N]? = some (.cells #[.int .u32 a,.int .u32 b] 56 (0,0))
theorem Box2S.below {w w':World} {N:Nat} {a b:Int} (h:Box2S w N a b) (hb:Below w.heap.size w w'):Box2S w' N a b:=(hb.block N (Array.getElem?_eq_some_iff.1 h).1).trans h
theorem Box2S.reads {w:World} {N:Nat} {a b:Int} (h:Box2S w N a b):w.cell? ⟨N,0,none⟩ = some (.int .u32 a) ∧ w.cell? ⟨N,1,none⟩ = some (.int .u32 b):=by
 unfold Box2S at h;exact ⟨by simp [World.cell?,h],by simp [World.cell?,h]⟩
end Go.Proofs.YtmnbljijnbhghaaGreatDoor
