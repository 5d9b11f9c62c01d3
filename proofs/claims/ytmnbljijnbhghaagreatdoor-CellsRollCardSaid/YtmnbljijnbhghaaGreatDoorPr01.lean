/- Contracts that the law leans on: Codeb Keyd Keyg Keyh Keyi Keyj Aggw Celk Cele Celj Celp Cemb. -/
import Derived.Lib.ItoaNum
import Derived.OwnWalk
import Derived.Deep.AppendLies
import Derived.Deep.RegionLawGrows
import Derived.Laws.FloatArith
import Derived.WalkLawsBesides
import Derived.Laws.Externs
import Derived.Laws.BitsAllLaws
import Derived.Lib.Hide
import Derived.Shelf.Spec.TrailingZeros
import Derived.Laws.Bits64b
import Derived.Lib.BitFns
import Derived.Lib.Small
import Derived.Lib.Strings
import Derived.Lib.Slices
import Derived.Lib.Walk
import Derived.Deep.QuietTactic
import Derived.BigQuiet
import Derived.WalkKit
import Derived.WalkSpells
import Derived.WalkSmall
import Derived.Laws.Bits64
import Derived.Deep.Draws
import Derived.Deep.RegionHeld3
import Derived.Deep.DeepCutAuto
import Derived.Lib.AppendZeros
import Derived.Maps.OwnSet
import Derived.Below
import Derived.OpenShut
import Derived.Deep.CutBlock
import Derived.SliceStrings
import Derived.Deep.Slices
import Derived.Deep.Fields
import Derived.ChangeSame
import Derived.ChangeSlices
import Derived.Lib.SmallJoins
import Derived.Laws.BytesArg
import Derived.Deep.LoopGhost
import Derived.Deep.RegionLaw
import Derived.Outline
import Derived.Deep.RegionWith
import Derived.RegionTactic
import Derived.ChangeAlike
import Derived.Laws.IdiomStrings
import Derived.ProofKit
import Derived.LaidMore
import Derived.Stop.Joined
import Derived.Lib.LaidTab
import Derived.Deep.RegionHeld
import Derived.Deep.DrawnRows
import Derived.Deep.CutRange
import Derived.Lib.Bytealg
import Derived.Lib.ConvBytes
import Derived.Laws.CopyRow
import Derived.Laws.IdiomCopy
import Derived.Laws.OwnMore
import Derived.Laws.MakeOwn
import Derived.Maps.Ext
import Derived.Maps.RangeWalk
import Derived.Test.YtmnbljijnbhghaaGreatDoorProg
import Derived.Test.YtmnbljijnbhghaaGreatDoorRows
import Derived.Test.YtmnbljijnbhghaaGreatDoorPt01
import Derived.Test.YtmnbljijnbhghaaGreatDoorPt02
import Derived.Test.YtmnbljijnbhghaaGreatDoorPt03
import Derived.Test.YtmnbljijnbhghaaGreatDoorPt04
import Derived.Test.YtmnbljijnbhghaaGreatDoorPt05
import Derived.Test.YtmnbljijnbhghaaGreatDoorPt06
import Derived.Test.YtmnbljijnbhghaaGreatDoorPt07
import Derived.Test.YtmnbljijnbhghaaGreatDoorPt08
import Derived.Test.YtmnbljijnbhghaaGreatDoorPt09
import Derived.Test.YtmnbljijnbhghaaGreatDoorPt10
import Derived.Test.YtmnbljijnbhghaaGreatDoorPt11
import Derived.Test.YtmnbljijnbhghaaGreatDoorPt12
import Derived.Test.YtmnbljijnbhghaaGreatDoorPt13
import Derived.Test.YtmnbljijnbhghaaGreatDoorPt14
import Derived.Test.YtmnbljijnbhghaaGreatDoorPt15
import Derived.Test.YtmnbljijnbhghaaGreatDoorPt16
import Derived.Test.YtmnbljijnbhghaaGreatDoorPt17
import Derived.Test.YtmnbljijnbhghaaGreatDoorPt18
import Derived.Test.YtmnbljijnbhghaaGreatDoorPt19
import Derived.Test.YtmnbljijnbhghaaGreatDoorPt20
import Derived.Test.YtmnbljijnbhghaaGreatDoorPt21
import Derived.Test.YtmnbljijnbhghaaGreatDoorPt22
import Derived.Test.YtmnbljijnbhghaaGreatDoorPt23
import Derived.Test.YtmnbljijnbhghaaGreatDoorPt24
import Derived.Test.YtmnbljijnbhghaaGreatDoorPt25
import Derived.Test.YtmnbljijnbhghaaGreatDoorPt26
import Derived.Test.YtmnbljijnbhghaaGreatDoorPt27
import Derived.Test.YtmnbljijnbhghaaGreatDoorPt28
import Derived.Test.YtmnbljijnbhghaaGreatDoorPt29
import Derived.Test.YtmnbljijnbhghaaGreatDoorPt30
import Derived.Test.YtmnbljijnbhghaaGreatDoorPt31
namespace Go.Proofs.YtmnbljijnbhghaaGreatDoor
set_option maxRecDepth 100000
set_option linter.unusedVariables false
theorem Bt.head {c:Int} {l:List Int} (h:Bt (c :: l)):0 ≤ c ∧ c ≤ 255:=h c (by simp)
theorem Bt.tail {c:Int} {l:List Int} (h:Bt (c :: l)):Bt l:=fun x hx => h x (by simp [hx])
set_option maxRecDepth 100000
open Go.RowKit
set_option linter.unusedVariables false
section
variable {P : Program} (w : World)
theorem zxaf (base:Nat) (t ty e:TypeId) (i:TypeInfo) (z:Value) (bytes:Nat) (ht:P.underlying t = some (.slice e)) (hi:P.info? e = some i) (hz:i.zero = some z) (hsize:i.size = 1) (hby:i.bytes = bytes) (hzs:z.cells.size = 1)
  (k:IntKind) (v v2:Value) (zs ns:List Int) (hown:w.ownsRow base e 1 v zs.length (zs.map (Value.int k))) (hv2:Ints k w v2 ns) (h63:zs.length + ns.length ≤ maxLen) (hbytes:(zs.length + ns.length) * bytes ≤ 140737488355328) (hbase:base ≤ w.heap.size) :
  ∃ v' w',(Builtin.append_ #[t,t] ty #[v,v2]).run P w = .ok v' w' ∧ w'.ownsRow base e 1 v' (zs ++ ns).length ((zs ++ ns).map (Value.int k)) ∧ w.grownBy w' v.ownBlock:=by
 obtain ⟨a,cap,rfl,hc,ha⟩:=hv2;have one:∀ u ∈ ns.map (Value.int k),u.oneCell' = true:=by
  intro u hu; obtain ⟨x,_,rfl⟩:=List.mem_map.1 hu; rfl
 have fin:∀ (v':Value) (w':World),w'.ownsRow base e 1 v' (zs.length + ns.length) (zs.map (Value.int k) ++ ns.map (Value.int k)) → w'.ownsRow base e 1 v' (zs ++ ns).length ((zs ++ ns).map (Value.int k)):=fun v' w' h => by
  simpa using h
 cases a with
 | none =>
  have hn:ns = []:=by
   rcases ha with h | ⟨b,off,h,_⟩
   ·exact h
   ·cases h
  subst hn;exact ⟨v,w,zqob w base t ty e i 1 ht hi v _ _ hown cap,fin v w (by simpa using hown),World.grownBy.refl w _⟩
 | some ad =>
  have hnews:∀ j u,(ns.map (Value.int k))[j]? = some u → w.cell? (ad.add j) = some u:=fun j u hj => by
   rcases ha with h | ⟨b,off,h,_,hcell⟩
   ·subst h; simp at hj
   ·simp only [Option.some.injEq] at h;subst h;rw [List.getElem?_map] at hj;obtain ⟨x,hx,rfl⟩:=Option.map_eq_some_iff.1 hj;have hl:=(List.getElem?_eq_some_iff.1 hx).1;have hh:=hcell j hl;have e1:ns.getD j 0 = x:=by simp [List.getD,hx]
    rw [e1] at hh
    by_cases h0:j = 0
    ·subst h0; simpa [Addr.add] using hh
    ·simpa [Addr.add,h0] using hh
  obtain ⟨v',w',hrun,r1,r2,_⟩:=run_append_own (P:=P) w base t ty e i z 1 bytes ht hi hz hsize hby hzs (by omega) v zs.length _ hown ad ns.length cap (ns.map (Value.int k)) (by simp) hnews one h63 hbytes hbase
  exact ⟨v',w',hrun,fin v' w' r1,r2⟩
theorem zxah {ops:Array Oper} {rest:List Oper} {o:Oper} {a:Act} {Q:Exit → Act → World → Prop} (hw:Region.wanted o (yielded ops a.tmps) = true) (s x:Operand) (t:TypeId)
  (ho:o.op = .call { callee:=.builtin .append,args:=#[s,x],argTypes:=#[t,t] })
  (base:Nat) (e:TypeId) (i:TypeInfo) (z:Value) (bytes:Nat) (ht:P.underlying t = some (.slice e)) (hi:P.info? e = some i) (hz:i.zero = some z) (hsize:i.size = 1) (hby:i.bytes = bytes) (hzs:z.cells.size = 1)
  (k:IntKind) (v v2:Value) (zs ns:List Int) (hs:a.eval s = v) (hx:a.eval x = v2) (hown:w.ownsRow base e 1 v zs.length (zs.map (Value.int k))) (hv2:Ints k w v2 ns) (h63:zs.length + ns.length ≤ maxLen) (hbytes:(zs.length + ns.length) * bytes ≤ 140737488355328) (hbase:base ≤ w.heap.size)
  (h:∀ v' w',w'.ownsRow base e 1 v' (zs ++ ns).length ((zs ++ ns).map (Value.int k)) → w.grownBy w' v.ownBlock → wpList P ops Q rest (a.put o.dst v') w'):wpList P ops Q (o :: rest) a w :=
 BigFrame.wpList_want hw fun _ hK => by
  obtain ⟨v',w',hrun,r1,r2⟩:=zxaf (P:=P) w base t o.type e i z bytes ht hi hz hsize hby hzs k v v2 zs ns hown hv2 h63 hbytes hbase;unfold Oper.wp;simp [execOp,ho,resolve,invoke,builtin,hs,hx,hrun,Result.andThen];exact hK _ _ (h v' w' r1 r2)
theorem zxau {ops:Array Oper} {o:Oper} {a:Act} {K:Act → World → Prop} {Q:Exit → Act → World → Prop} {E:Prop} (hgd:o.guard = none) (s x:Operand) (t:TypeId)
  (ho:o.op = .call { callee:=.builtin .append,args:=#[s,x],argTypes:=#[t,t] })
  (base:Nat) (e:TypeId) (i:TypeInfo) (z:Value) (bytes:Nat) (ht:P.underlying t = some (.slice e)) (hi:P.info? e = some i) (hz:i.zero = some z) (hsize:i.size = 1) (hby:i.bytes = bytes) (hzs:z.cells.size = 1)
  (k:IntKind) (v v2:Value) (zs ns:List Int) (hs:a.eval s = v) (hx:a.eval x = v2) (hown:w.ownsRow base e 1 v zs.length (zs.map (Value.int k))) (hv2:Ints k w v2 ns) (h63:zs.length + ns.length ≤ maxLen) (hbytes:(zs.length + ns.length) * bytes ≤ 140737488355328) (hbase:base ≤ w.heap.size)
  (h:∀ v' w',w'.ownsRow base e 1 v' (zs ++ ns).length ((zs ++ ns).map (Value.int k)) → w.grownBy w' v.ownBlock → K (a.put o.dst v') w') :
  if Region.wanted o (yielded ops a.tmps) = true then Oper.wp P o a w K Q else E:=by
 have hw:Region.wanted o (yielded ops a.tmps) = true:=by simp [Region.wanted,hgd]
 rw [if_pos hw];obtain ⟨v',w',hrun,r1,r2⟩:=zxaf (P:=P) w base t o.type e i z bytes ht hi hz hsize hby hzs k v v2 zs ns hown hv2 h63 hbytes hbase;unfold Oper.wp;simp [execOp,ho,resolve,invoke,builtin,hs,hx,hrun,Result.andThen];exact h v' w' r1 r2
end
end Go.Proofs.YtmnbljijnbhghaaGreatDoor
namespace Go.Proofs.YtmnbljijnbhghaaGreatDoor
set_option maxRecDepth 100000
open Go.RowKit
set_option linter.unusedVariables false
theorem zxbe {w:World} {B B':Nat} {v:Value} {l:List Int} (h:IOwn w B v l) (hb:B' ≤ B):IOwn w B' v l:=by
 refine ⟨h.1,?_⟩;rcases h.2 with h0 | ⟨g,cap,cur,h1,h2,h3⟩
 ·exact .inl h0
 ·exact .inr ⟨g,cap,cur,h1,Nat.le_trans hb h2,h3⟩
theorem iown0 (w:World) (B:Nat):IOwn w B (.slice none 0 0) []:=⟨by simp,.inl ⟨rfl,rfl⟩⟩
theorem zxai (w:World) (m:Int) (n:Nat) (hn:n ≤ 31) (m0:0 ≤ m) (m1:m ≤ 4294967295) :
  Calls Tryz.prog 65 #[.int .u32 m,.int .i64 n] w fun e w' => e = .returned (.bool (bitG m n)) ∧ w = w':=zqmy w m n hn m0 m1
set_option maxHeartbeats 2000000 in
theorem zxbo (w:World) (b a:Int) (b0:0 ≤ b) (b1:b ≤ 4294967295) (a0:0 ≤ a) (a1:a ≤ 4294967295) :
  Calls Tryz.prog 37 #[.int .u32 b,.int .u32 a] w fun e w' => e = .returned (.bool (subM b a)) ∧ w = w':=by
 have HA:=zh (fun i (hi:i ≤ 31) => zxai w b i hi b0 b1)
 have HF:=zh (fun i (hi:i ≤ 31) => zxai w a i hi a0 a1)
 have HT:=zh (show (∀ k,k < 32 → bitG b k = true → bitG a k = true) → subM b a = true from fun h => List.all_eq_true.2 fun k hk => by
  by_cases hb:bitG b k = true
  ·rw [h k (by simpa using hk) hb]; simp
  ·rw [eq_false_of_ne_true hb]; simp)
 have HN:=zh (show ∀ k,k < 32 → bitG b k = true → bitG a k = false → subM b a = false from fun k hk hb ha => List.all_eq_false.2 ⟨k,by simpa using hk,by rw [hb,ha]; decide⟩)
 generalize subM b a = r at *;go_enter Tryz.func37,Tryz.ntmps37;go_wp2;go_loopw [5] (fun i wr => ∃ k:Nat,k ≤ 32 ∧ i = .int .i64 k ∧ w = wr ∧ Hid (∀ j,j < k → bitG b j = true → bitG a j = true)) (fun i _ => 32 - (intOf i).toNat)
 case atStart => exact ⟨0,Nat.zero_le _,rfl,rfl,zh (fun j hj => by omega)⟩
 case round =>
  obtain ⟨k,hk,rfl,rfl,HJ⟩:=hrel
  by_cases hlk:k < 32
  ·have hlk':(k:Int) < 32:=by omega
   have HAk:=zh (HA.out k (by omega))
   have HFk:=zh (HF.out k (by omega))
   by_cases h1:bitG b k = true
   ·rw [h1] at HAk
    by_cases h2:bitG a k = true
    ·rw [h2] at HFk;have HJ2:=zh (show ∀ j,j < k + 1 → bitG b j = true → bitG a j = true from fun j hj hb => if e:j = k then e ▸ h2 else HJ.out j (by omega) hb)
     clear h1 h2;go_wp2_with fail;refine (HAk.out).mono ?_; rintro e w1 ⟨rfl,rfl⟩;go_wp2_with fail;refine (HFk.out).mono ?_; rintro e w1 ⟨rfl,rfl⟩;go_wp2_with fail;go_roundw
     case rel => exact ⟨k + 1,by omega,by go_num,by trivial,HJ2⟩
     case measure => simp [intOf]; omega
    ·have hR:=HN.out k hlk h1 (eq_false_of_ne_true h2);subst hR;rw [eq_false_of_ne_true h2] at HFk;clear h1 h2;go_wp2_with fail;refine (HAk.out).mono ?_; rintro e w1 ⟨rfl,rfl⟩;go_wp2_with fail;refine (HFk.out).mono ?_; rintro e w1 ⟨rfl,rfl⟩;go_wp2_with fail;go_ret;exact ⟨rfl,rfl⟩
   ·rw [eq_false_of_ne_true h1] at HAk;have HJ2:=zh (show ∀ j,j < k + 1 → bitG b j = true → bitG a j = true from fun j hj hb => if e:j = k then absurd (e ▸ hb) h1 else HJ.out j (by omega) hb)
    clear h1;go_wp2_with fail;refine (HAk.out).mono ?_; rintro e w1 ⟨rfl,rfl⟩;go_wp2_with fail;go_roundw
    case rel => exact ⟨k + 1,by omega,by go_num,by trivial,HJ2⟩
    case measure => simp [intOf]; omega
  ·have:k = 32:=by omega
   subst this;have hR:=HT.out HJ.out;subst hR;go_wp2_with fail;go_ret;exact ⟨rfl,rfl⟩
set_option maxHeartbeats 4000000 in
theorem zxbl (w:World) (D I M V u:Value) (S:Sc) (m:Int) (l:List Int) (h:Sch4 w D I M V S) (hu:Ints .i64 w u l) (hn:S.ds.length ≤ 31) (hl:l.length = S.ds.length) (hz:sizB S.ds = true) (hc:InG (dz S.ds) (cz l) (bitG m) S.ds.length) (m0:0 ≤ m) (m1:m ≤ 4294967295) :
  Calls Tryz.prog 100 #[SchV D I M V,.int .u32 m,u] w fun e w' => e = .returned (.int .u64 (keyG (dz S.ds) (cz l) (bitG m) S.ds.length)) ∧ Below w.heap.size w w':=by
 have HB0:=zh (zqab w (SchO D I M V));have HX:=zh (zqau w D I M V);have hd:=h.d;obtain ⟨⟨a,c,rfl⟩,⟨a2,c2,rfl⟩,⟨a3,c3,rfl⟩,a4,c4,rfl⟩:=h.slices;obtain ⟨pu,cu,rfl,hcu,-⟩:=id hu;have HU:=zh hu;obtain ⟨a',cap',e',h1,h2,h3⟩:=hd;obtain ⟨rfl,rfl⟩:a = a' ∧ c = cap':=by injection e' with e1 e2 e3; exact ⟨e1,e3⟩
 have HC:=zh h3;have HI:=zh hc;have HKn:=zh (fun k => show keyG (dz S.ds) (cz l) (bitG m) (k + 1) = if bitG m k = true then keyG (dz S.ds) (cz l) (bitG m) k * dz S.ds k + cz l k else keyG (dz S.ds) (cz l) (bitG m) k from rfl)
 have HR:=zh (zqm3 hz hc);have HZ:=zh (fun k (hk:k < S.ds.length) => zqcj hz hk)
 have HH:=zh (fun w k hk => zxai w m k hk m0 m1)
 rw [hl] at hcu HU;rw [hl];clear h h3 e' hz hc hu;go_enter Tryz.func100,Tryz.ntmps100;go_wp2_with fail;generalize hW0:w.alloc (SchO (.slice a S.ds.length c) (.slice a2 S.is.length c2) (.slice a3 S.ns.length c3) (.slice a4 S.vs.length c4)) = W0 at *;clear hW0;go_loopw [7,8] (fun pv i wr => ∃ k:Nat,k ≤ S.ds.length ∧ i = .int .i64 k ∧ (∃ p:Int,pv = .int .u64 p ∧ 0 ≤ p ∧ p ≤ 1099511627776 ∧ Hid (p = keyG (dz S.ds) (cz l) (bitG m) k)) ∧ Hid (Below w.heap.size w wr ∧ Box wr w.heap.size (.slice a S.ds.length c) (.slice a2 S.is.length c2) (.slice a3 S.ns.length c3) (.slice a4 S.vs.length c4))) (fun _ i _ => S.ds.length - (intOf i).toNat)
 case atStart => exact ⟨0,Nat.zero_le _,rfl,⟨0,rfl,by decide,by decide,zh rfl⟩,zh ⟨HB0.out,HX.out⟩⟩
 case round =>
  obtain ⟨k,hk,rfl,⟨p,rfl,hp0,hp1,HE⟩,HB⟩:=hrel;obtain ⟨x0,x1,x2,x3⟩:=HB.out.2.reads
  by_cases hlk:k < S.ds.length
  ·rcases HC.out with h3 | ⟨b,off,rfl,hlt,hcell⟩
   ·rw [h3] at hlk; simp at hlk
   obtain ⟨c0,c1⟩:=hcell k hlk;have c1:wr.cell? ⟨b,off + k * 2 + 1,none⟩ = _:=(HB.out.1.cell (p:=⟨b,off + k * 2 + 1,none⟩) hlt).trans c1;obtain ⟨b2,o2,hp2,hb2,hc2⟩:=HU.out.cell (i:=k) (by omega)
   subst hp2;have hc2:=cell_later HB.out.1 hc2;have hc3:wr.cell? ⟨b2,o2 + k,none⟩ = some (.int .i64 (cz l k)):=hc2;have HKk:=zh (HKn.out k);have hz:=HZ.out k hlk;have hr:=HR.out (k + 1) (by omega)
   have hI:=HI.out k hlk;have HHk:=zh (fun w => HH.out w k (by omega))
   have hle:Hid (k + 1 ≤ S.ds.length):=zh (by omega)
   have hlk':(k:Int) < (S.ds.length:Int):=by omega
   rw [← HE.out] at HKk;clear hc2 c0 hcell;generalize dz S.ds k = z at *;generalize cz l k = y at *
   by_cases hbit:bitG m k = true
   ·obtain ⟨y0,y1⟩:=hI hbit;rw [hbit] at HHk;rw [if_pos hbit] at HKk;have hpz:0 ≤ p * z:=Int.mul_nonneg hp0 (by omega)
    rw [HKk.out] at hr;have i1:IntKind.u64.wrap z = z:=by rw [IntKind.wrap_u64]; omega
    have i2:IntKind.u64.wrap (p * z) = p * z:=by rw [IntKind.wrap_u64]; omega
    have i3:IntKind.u64.wrap y = y:=by rw [IntKind.wrap_u64]; omega
    have i4:IntKind.u64.wrap (p * z + y) = p * z + y:=by rw [IntKind.wrap_u64]; omega
    have HE3:=zh hr;clear hr hz hpz hI hbit y0 y1;go_wp2_with fail;refine (HHk.out _).mono ?_; rintro e w1 ⟨rfl,rfl⟩;go_upto_region 6 with fail;go_quiet (fail);have HB2:=zh (And.intro (below_drewN HB.out.1 nq) (show Box (wr.drewN nq) w.heap.size _ _ _ _ from HB.out.2));go_wp2;go_roundw
    case rel => exact ⟨k + 1,hle.out,by go_num,⟨p * z + y,rfl,HE3.out.1,HE3.out.2,zh HKk.out.symm⟩,HB2⟩
    case measure => simp [intOf]; omega
   ·rw [eq_false_of_ne_true hbit] at HHk;rw [if_neg hbit] at HKk;clear hr hz hI hbit hc3 c1;go_wp2_with fail;refine (HHk.out _).mono ?_; rintro e w1 ⟨rfl,rfl⟩;go_wp2_with fail;go_roundw
    case rel => exact ⟨k + 1,hle.out,by go_num,⟨p,rfl,hp0,hp1,zh HKk.out.symm⟩,HB⟩
    case measure => simp [intOf]; omega
  ·have:k = S.ds.length:=by omega
   subst this;have HE2:=zh HE.out;clear HE;go_wp2_with fail;go_ret;rw [HE2.out];exact ⟨rfl,HB.out.1⟩
theorem zxax (d:Nat → Int) (p:Nat → Bool) (i:Nat):∀ j,numG d p (i + j) = numG d p i * tailG d p i j
 | 0 => by simp [tailG]
 | j + 1 => by
  have ih:=zxax d p i j;show (if p (i + j) = true then numG d p (i + j) * d (i + j) else numG d p (i + j)) = numG d p i * (if p (i + j) = true then tailG d p i j * d (i + j) else tailG d p i j)
  split
  ·rw [ih,Int.mul_assoc]
  ·exact ih
theorem zxbw {ds:List (ByteArray × Int)} (hz:sizB ds = true) (m:Int) {i j:Nat} (h:i + j ≤ ds.length):1 ≤ tailG (dz ds) (bitG m) i j ∧ tailG (dz ds) (bitG m) i j ≤ 1099511627776:=by
 have h1:=zqgx (p:=bitG m) (zqdg hz) j h;have h2:=zxax (dz ds) (bitG m) i j;have h3:=(zqcs m hz (i + j) h).2;have h4:=zqc4 hz (i + j) h;have h5:=(zqcs m hz i (by omega)).1
 rw [zqh8] at h3 h5;have h6:=Int.mul_le_mul h5 (Int.le_refl (tailG (dz ds) (bitG m) i j)) (by omega) (by omega)
 omega
theorem zxa6 (ds:List (ByteArray × Int)) (m q:Int) {k:Nat} (hk:k < ds.length):(codesL ds m q).take k ++ [codG (dz ds) (bitG m) ds.length q k] = (codesL ds m q).take (k + 1):=by
 have hl:=zqek ds m q;have hg:=zqgb ds m q hk;rw [List.take_add_one,List.getElem?_eq_getElem (by omega)]
 unfold cz at hg;rw [List.getD,List.getElem?_eq_getElem (by omega)] at hg
 rw [← hg]
 rfl
theorem zxal {B:Nat} {w wr w1:World} {o:Value} {l:List Int} (hB:B ≤ wr.heap.size) (hnx:Below B w wr) (hown:IOwn wr B o l) (hg:wr.grownBy w1 o.ownBlock):Below B w w1 :=
 hnx.grown hg hB (fun k hk => (hown.lt k hk).1)
theorem zxaw {k:IntKind} {w:World} {x:Int} {T:TypeId} {N:Nat} (hN:w.heap.size = N):Ints k (w.alloc (.cells #[.int k x] T)).drew (.slice (some ⟨N,0,none⟩) 1 1) [x]:=zqkj hN
set_option maxHeartbeats 8000000 in
theorem zxa8 (w:World) (D I M V:Value) (S:Sc) (m q:Int) (h:Sch4 w D I M V S) (hn:S.ds.length ≤ 31) (hz:sizB S.ds = true) (m0:0 ≤ m) (m1:m ≤ 4294967295) (q0:0 ≤ q) (q1:q ≤ 18446744073709551615) :
  Calls Tryz.prog 117 #[SchV D I M V,.int .u32 m,.int .u64 q] w (OwnB w.heap.size w (codesL S.ds m q)):=by
 obtain ⟨i0,hi,hz0,hz1,hz2⟩:=info_parts Tryz.infoInt;have HB0:=zh (zqab w (SchO D I M V));have HX:=zh (zqau w D I M V);have hd:=h.d;obtain ⟨⟨a,c,rfl⟩,⟨a2,c2,rfl⟩,⟨a3,c3,rfl⟩,a4,c4,rfl⟩:=h.slices;obtain ⟨a',cap',e',h1,h2,h3⟩:=hd;obtain ⟨rfl,rfl⟩:a = a' ∧ c = cap':=by injection e' with e1 e2 e3; exact ⟨e1,e3⟩
 have HC:=zh h3;have HZ:=zh (fun k (hk:k < S.ds.length) => zqcj hz hk)
 have HT:=zh (fun i j (hij:i + j ≤ S.ds.length) => zxbw hz m hij)
 have HTn:=zh (fun i j => show tailG (dz S.ds) (bitG m) i (j + 1) = if bitG m (i + j) = true then tailG (dz S.ds) (bitG m) i j * dz S.ds (i + j) else tailG (dz S.ds) (bitG m) i j from rfl)
 have HH:=zh (fun w k hk => zxai w m k hk m0 m1)
 have HN:=zh (fun k (hk:k < S.ds.length) => zxa6 S.ds m q hk)
 have HL:=zh (zqek S.ds m q);have HG:=zh (fun i => show codG (dz S.ds) (bitG m) S.ds.length q i = if bitG m i = true then q / tailG (dz S.ds) (bitG m) (i + 1) (S.ds.length - (i + 1)) % dz S.ds i else -1 by unfold codG; rw [Nat.sub_sub])
 clear h h3 e' hz;generalize codesL S.ds m q = L at *;go_enter Tryz.func117,Tryz.ntmps117;go_wp2_with fail;generalize hW0:w.alloc (SchO (.slice a S.ds.length c) (.slice a2 S.is.length c2) (.slice a3 S.ns.length c3) (.slice a4 S.vs.length c4)) = W0 at *;clear hW0;go_loopw [7,8] (fun lv i wr => ∃ k:Nat,k ≤ S.ds.length ∧ i = .int .i64 k ∧ Hid (IOwn wr W0.heap.size lv (L.take k) ∧ Below W0.heap.size W0 wr)) (fun _ i _ => S.ds.length - (intOf i).toNat)
 case atStart => exact ⟨0,Nat.zero_le _,rfl,zh ⟨iown0 _ _,Below.refl _ _⟩⟩
 case round =>
  obtain ⟨k,hk,rfl,HS⟩:=hrel;obtain ⟨x0,x1,x2,x3⟩:=(HX.out.below HS.out.2).reads
  by_cases hlk:k < S.ds.length
  ·have hlk':(k:Int) < (S.ds.length:Int):=by omega
   have HHk:=zh (fun w => HH.out w k (by omega))
   have HNk:=zh (HN.out k hlk);have hGk:=HG.out k;have hlen:(L.take k).length = k:=by rw [List.length_take,HL.out]; omega
   have HLk:=zh (show (L.take k).length ≤ 31 by omega)
   clear hlen;obtain ⟨pa,pl,pc,rfl⟩:=zqam HS.out.1;have hsz:=HS.out.2.size
   by_cases hbit:bitG m k = true
   ·rcases HC.out with h3 | ⟨b,off,rfl,hlt,hcell⟩
    ·rw [h3] at hlk; simp at hlk
    rw [if_pos hbit] at hGk;rw [hbit] at HHk;obtain ⟨c0,c1⟩:=hcell k hlk;have HCw:=zh c1;have c1:wr.cell? ⟨b,off + k * 2 + 1,none⟩ = _:=((zqaa HB0.out HS.out.2).cell (p:=⟨b,off + k * 2 + 1,none⟩) hlt).trans c1;have hz:=HZ.out k hlk;generalize L.take k = L0 at *;clear hbit c0;go_wp2_with fail;refine (HHk.out _).mono ?_; rintro e w1 ⟨rfl,rfl⟩;go_wp2_with fail;go_loopw [9,10] (fun tv jv wx => ∃ j:Nat,j ≤ S.ds.length ∧ k + 1 ≤ j ∧ jv = .int .i64 j ∧ wr = wx ∧ ∃ t:Int,tv = .int .u64 t ∧ 1 ≤ t ∧ t ≤ 1099511627776 ∧ Hid (t = tailG (dz S.ds) (bitG m) (k + 1) (j - (k + 1)))) (fun _ jv _ => S.ds.length - (intOf jv).toNat)
    case atStart => exact ⟨k + 1,by omega,Nat.le_refl _,by go_num,rfl,1,rfl,by decide,by decide,zh (by rw [Nat.sub_self]; rfl)⟩
    case round =>
     obtain ⟨j,hj,hkj,rfl,rfl,t,rfl,t0,t1,HE⟩:=hrel
     by_cases hlj:j < S.ds.length
     ·have hlj':(j:Int) < (S.ds.length:Int):=by omega
      have HHj:=zh (fun w => HH.out w j (by omega))
      have hst:=HTn.out (k + 1) (j - (k + 1));have e1:k + 1 + (j - (k + 1)) = j:=by omega
      have e2:j - (k + 1) + 1 = j + 1 - (k + 1):=by omega
      rw [e1,e2,← HE.out] at hst;have hT:=HT.out (k + 1) (j + 1 - (k + 1)) (by omega)
      obtain ⟨d0,d1⟩:=hcell j hlj;have d1:wr.cell? ⟨b,off + j * 2 + 1,none⟩ = _:=((zqaa HB0.out HS.out.2).cell (p:=⟨b,off + j * 2 + 1,none⟩) hlt).trans d1;have hzj:=HZ.out j hlj;clear e1 e2 d0 hcell hGk c1 hz HNk;generalize dz S.ds j = z at *
      by_cases hbj:bitG m j = true
      ·rw [hbj] at HHj;rw [if_pos hbj] at hst;rw [hst] at hT;have HE2:=zh (And.intro hst hT);have i1:IntKind.u64.wrap z = z:=by rw [IntKind.wrap_u64]; omega
       have i2:IntKind.u64.wrap (t * z) = t * z:=by rw [IntKind.wrap_u64]; omega
       clear hst hT hbj hzj;go_wp2_with fail;refine (HHj.out _).mono ?_; rintro e w1 ⟨rfl,rfl⟩;go_wp2_with fail;go_roundw
       case rel => exact ⟨j + 1,by omega,by omega,by go_num,by trivial,t * z,rfl,HE2.out.2.1,HE2.out.2.2,zh HE2.out.1.symm⟩
       case measure => simp [intOf]; omega
      ·rw [eq_false_of_ne_true hbj] at HHj;rw [if_neg hbj] at hst;have HE2:=zh hst;clear hst hT hbj hzj d1;go_wp2_with fail;refine (HHj.out _).mono ?_; rintro e w1 ⟨rfl,rfl⟩;go_wp2_with fail;go_roundw
       case rel => exact ⟨j + 1,by omega,by omega,by go_num,by trivial,t,rfl,t0,t1,zh HE2.out.symm⟩
       case measure => simp [intOf]; omega
     ·have hje:j = S.ds.length:=by omega
      subst hje;rw [← HE.out] at hGk;rw [hGk] at HNk;clear hGk HE hcell;have hd0:0 ≤ q / t:=Int.ediv_nonneg q0 (by omega)
      have hd1:q / t ≤ q:=Int.ediv_le_self _ q0;have i1:q.tdiv t = q / t:=Int.tdiv_eq_ediv_of_nonneg q0;generalize dz S.ds k = z at *;have i2:(q / t).tmod z = q / t % z:=Int.tmod_eq_emod_of_nonneg hd0;have hm:=Int.emod_lt_of_pos (q / t) (show 0 < z by omega)
      have hm0:=Int.emod_nonneg (q / t) (show z ≠ 0 by omega)
      have i3:IntKind.u64.wrap (q / t) = q / t:=by rw [IntKind.wrap_u64]; omega
      have i4:IntKind.u64.wrap z = z:=by rw [IntKind.wrap_u64]; omega
      have n1:(t == 0) = false:=by simp; omega
      have n2:(z == 0) = false:=by simp; omega
      have n3:¬ t = 0:=by omega
      have n4:¬ z = 0:=by omega
      generalize q / t = r at *;generalize r % z = y at *;have i5:IntKind.i64.wrap y = y:=IntWalk.i64_in _ (by omega)
      go_upto_region 13 with fail;have hk:wr.drew.cell? ⟨w.heap.size,0,none⟩ = some (.slice (some ⟨b,off,none⟩) S.ds.length c) ∧ wr.drew.cell? ⟨b,off + k * 2 + 1,none⟩ = some (.int .i64 z):=⟨by simp [x0],by simp [c1]⟩
      clear x0 x1 x2 x3 c1;go_region_held3 (fun w' => w'.cell? ⟨w.heap.size,0,none⟩ = some (.slice (some ⟨b,off,none⟩) S.ds.length c) ∧ w'.cell? ⟨b,off + k * 2 + 1,none⟩ = some (.int .i64 z)) (first | (with_reducible exact hk) | exact ⟨cell_later (zqab _ _) hk.1,cell_later (zqab _ _) hk.2⟩)
       (first
        | (refine zxau _ (by rfl) _ _ _ (by rfl) W0.heap.size 3 i0 (.int .i64 0) 8 Tryz.underlying69 hi hz0 hz1 hz2 (by rfl) .i64 _ _ L0 [y] (by rfl) (by rfl) (HS.out.1.alloc _).drew (zxaw rfl) (by have:=HLk.out; unfold maxLen; simp; omega) (by have:=HLk.out; simp; omega) (by simp; omega) ?_; intro v' w3 hown hgrow; have HQ:=zh (And.intro hown (zxal (by simp; omega) (HS.out.2.alloc hsz _).drew (HS.out.1.alloc _).drew hgrow)); have hk:=And.intro (HX.out.below HQ.out.2).reads.1 (cell_later (zqaa HB0.out HQ.out.2) HCw.out); obtain ⟨pv',lv',cv',rfl⟩:=zqam hown; clear hown hgrow))
      clear hk;go_wp2_with fail;go_roundw
      case rel => exact ⟨k + 1,by omega,by go_num,zh ⟨by rw [← HNk.out]; exact HQ.out.1,HQ.out.2⟩⟩
      case measure => simp [intOf]; omega
   ·rw [eq_false_of_ne_true hbit] at HHk;rw [if_neg hbit] at hGk;rw [hGk] at HNk;generalize L.take k = L0 at *;clear hGk hbit;go_wp2_with fail;refine (HHk.out _).mono ?_; rintro e w1 ⟨rfl,rfl⟩;go_wp2_with (at_builtin; refine zxah _ (by rfl) _ _ 69 rfl W0.heap.size 3 i0 (.int .i64 0) 8 Tryz.underlying69 hi hz0 hz1 hz2 rfl .i64 _ _ L0 [-1] rfl rfl (HS.out.1.alloc _) (zqkj rfl) (by have:=HLk.out; unfold maxLen; simp; omega) (by have:=HLk.out; simp; omega) (by simp; omega) ?_; intro v' w1 hown hgrow; have HQ:=zh (And.intro hown (zxal (by simp; omega) (HS.out.2.alloc hsz _) (HS.out.1.alloc _) hgrow)); obtain ⟨pv',lv',cv',rfl⟩:=zqam hown; clear hown hgrow)
    go_roundw
    case rel => exact ⟨k + 1,by omega,by go_num,zh ⟨by rw [← HNk.out]; exact HQ.out.1,HQ.out.2⟩⟩
    case measure => simp [intOf]; omega
  ·have hke:k = S.ds.length:=by omega
   subst hke;have HS2:=HS.out;rw [List.take_of_length_le (by rw [HL.out]; omega)] at HS2
   have HS3:=zh HS2;clear HS HS2;obtain ⟨pa,pl,pc,rfl⟩:=zqam HS3.out.1;go_wp2_with fail;go_ret;exact ⟨⟨_,rfl,zxbe HS3.out.1 HB0.out.size⟩,zqaa HB0.out HS3.out.2⟩
set_option maxHeartbeats 4000000 in
theorem zxbh (w:World) (D I M V:Value) (S:Sc) (a b q:Int) (h:Sch4 w D I M V S) (hn:S.ds.length ≤ 31) (hz:sizB S.ds = true) (hs:∀ k,bitG b k = true → bitG a k = true) (a0:0 ≤ a) (a1:a ≤ 4294967295) (b0:0 ≤ b) (b1:b ≤ 4294967295) (q0:0 ≤ q) (q1:q ≤ 18446744073709551615) :
  Calls Tryz.prog 59 #[SchV D I M V,.int .u32 a,.int .u32 b,.int .u64 q] w fun e w' => e = .returned (.int .u64 (downG (dz S.ds) (bitG a) (bitG b) S.ds.length q)) ∧ Below w.heap.size w w':=by
 have HB0:=zh (zqab w (SchO D I M V));have HX:=zh (zqau w D I M V);have HC:=zh (fun w1 (hb:Below w.heap.size w w1) => zxa8 w1 D I M V S a q (h.below hb) hn hz a0 a1 q0 q1)
 have HO:=zh (fun w1 (hb:Below w.heap.size w w1) u (hu:Ints .i64 w1 u (codesL S.ds a q)) => zxbl w1 D I M V u S b (codesL S.ds a q) (h.below hb) hu hn (zqek _ _ _) hz (zqvs hz hs) b0 b1)
 rw [← zqsm];obtain ⟨⟨p,c,rfl⟩,⟨p2,c2,rfl⟩,⟨p3,c3,rfl⟩,p4,c4,rfl⟩:=h.slices;generalize keyG (dz S.ds) (cz (codesL S.ds a q)) (bitG b) S.ds.length = r at *;generalize codesL S.ds a q = l at *;clear h hz hs;go_enter Tryz.func59,Tryz.ntmps59;go_upto_region 1 with fail;generalize w.alloc (SchO (.slice p S.ds.length c) (.slice p2 S.is.length c2) (.slice p3 S.ns.length c3) (.slice p4 S.vs.length c4)) = W at *;have hBw:Below w.heap.size w W.drew:=HB0.out.drew;have hk:W.drew.cell? ⟨w.heap.size,0,none⟩ = some (.slice p S.ds.length c) ∧ W.drew.cell? ⟨w.heap.size,1,none⟩ = some (.slice p2 S.is.length c2) ∧ W.drew.cell? ⟨w.heap.size,2,none⟩ = some (.slice p3 S.ns.length c3) ∧ W.drew.cell? ⟨w.heap.size,3,none⟩ = some (.slice p4 S.vs.length c4):=HX.out.reads;go_region_held3 (fun w' => w'.cell? ⟨w.heap.size,0,none⟩ = some (.slice p S.ds.length c) ∧ w'.cell? ⟨w.heap.size,1,none⟩ = some (.slice p2 S.is.length c2) ∧ w'.cell? ⟨w.heap.size,2,none⟩ = some (.slice p3 S.ns.length c3) ∧ w'.cell? ⟨w.heap.size,3,none⟩ = some (.slice p4 S.vs.length c4)) (with_reducible exact hk)
  (first
   | (go_at_call 117; refine (HC.out _ hBw).mono ?_; rintro r w4 ⟨⟨v,rfl,hv⟩,hb2⟩; have hV:=Ints.own hv; obtain ⟨pa,pc,rfl,-,-⟩:=id hV; have hk:=zqa9 hb2 hk; have hBw:=zqaa hBw hb2; clear hb2 hv)
   | (go_at_call 100; refine (HO.out _ hBw _ hV).mono ?_; rintro r w5 ⟨rfl,hb2⟩; have hk:=zqa9 hb2 hk; have hBw:=zqaa hBw hb2; clear hb2))
 have HB7:=zh hBw;clear hBw hV hk;go_wp2_with fail;go_ret;exact ⟨rfl,HB7.out⟩
end Go.Proofs.YtmnbljijnbhghaaGreatDoor
namespace Go.Proofs.YtmnbljijnbhghaaGreatDoor
set_option maxRecDepth 100000
open Go.RowKit Go.ChangeShapes Go.WideShapes Go.Deep
set_option linter.unusedVariables false
theorem zxbd {w:World} {r:Reach} {b0:Nat} {t e:TypeId} {n m:Nat} {v:Value} (hu:Tryz.prog.underlying t = some (.array n e)) (hm:Tryz.prog.cellsOf t = m) (hv:Value.okWide Tryz.prog w r b0 t v):∃ cs,v = .agg cs ∧ cs.size = m:=by
 unfold Value.okWide at hv;rw [hu] at hv;obtain ⟨cs,rfl,hsz,-⟩:=hv;exact ⟨cs,rfl,hsz.trans hm⟩
end Go.Proofs.YtmnbljijnbhghaaGreatDoor
namespace Go.Proofs.YtmnbljijnbhghaaGreatDoor
set_option maxRecDepth 100000
open Go.RowKit
set_option linter.unusedVariables false
theorem zxac (a:List Int):∀ k i,i < k → ∀ j,j < 4 → (topB a k).getD (4 * i + j) 0 = (b4 (a.getD (a.length - 1 - i) 0)).getD j 0
 | 0,i,hi,_,_ => by omega
 | k + 1,i,hi,j,hj => by
  rw [zqck]
  by_cases e:i = k
  ·subst e;simp only [List.getD,List.getElem?_append,zqef];rw [if_neg (by omega),show 4 * i + j - 4 * i = j by omega]
  ·have ih:=zxac a k i (by omega) j hj
   simp only [List.getD,List.getElem?_append,zqef] at ih ⊢;rw [if_pos (by omega)]
   exact ih
theorem zxa3 {a:List Int} (h:Wd a) {k i:Nat} (hi:i < k):wAt (topB a k) i = a.getD (a.length - 1 - i) 0:=by
 have hr:=h.getD (a.length - 1 - i);unfold wAt;rw [show 4 * i = 4 * i + 0 by omega,zxac a k i hi 0 (by decide),show 4 * i + 0 + 1 = 4 * i + 1 by omega,zxac a k i hi 1 (by decide),show 4 * i + 0 + 2 = 4 * i + 2 by omega,zxac a k i hi 2 (by decide),show 4 * i + 0 + 3 = 4 * i + 3 by omega,zxac a k i hi 3 (by decide)]
 generalize a.getD (a.length - 1 - i) 0 = x at *;show ((x / 16777216 * 256 + x / 65536 % 256) * 256 + x / 256 % 256) * 256 + x % 256 = x
 omega
theorem bit4:∀ f,f < 32 → f.testBit 4 = true → f / 16 % 2 = 1:=by decide
theorem zxa0 {f:Nat} {t:Int} {l:List Int} (hg:Good f t) (h:IsEnc f t l):errN l = 0:=by
 obtain ⟨a,hd,ht,hv,hl,rfl⟩:=h;obtain ⟨hf,h4,-⟩:=hg;have hlow:=zqc1 a;have ha:a ≠ [] → t ≠ 0:=by
  intro hne e;subst e;exact hne (zqbb hd Wd.nil ht (.inl rfl) (by rw [hv]; simp [wv,wvN]))
 have ha2:a ≠ [] → f / 16 % 2 = 1:=fun hne => bit4 f hf (h4 (ha hne))
 have hneg:t < 0 → f / 16 % 2 = 1:=fun hn => bit4 f hf (h4 (by omega))
 have hnil:a.length - lowW a = 0 → a = []:=by
  intro e
  by_cases hne:a = []
  ·exact hne
  ·have:=zqyt ht hne; omega
 have hx:∃ x:Nat,(f:Int) + (if decide (t < 0) = true then 32 else 0) = (x:Int) ∧ x ≤ 63 ∧ x / 16 % 2 = f / 16 % 2 ∧ (x / 32 = 1 ↔ t < 0):=by
  by_cases hn:t < 0
  ·exact ⟨f + 32,by simp [hn],by omega,by omega,by constructor <;> intro _ <;> omega⟩
  ·exact ⟨f,by simp [hn],by omega,by omega,by constructor <;> intro _ <;> omega⟩
 obtain ⟨x,hx1,hx2,hx3,hx4⟩:=hx;unfold errN encB;rw [hx1];have g0:([(x:Int),(lowW a:Int),(a.length:Int) - lowW a] ++ topB a (a.length - lowW a)).getD 0 0 = x:=rfl;have g1:([(x:Int),(lowW a:Int),(a.length:Int) - lowW a] ++ topB a (a.length - lowW a)).getD 1 0 = lowW a:=rfl;have g2:([(x:Int),(lowW a:Int),(a.length:Int) - lowW a] ++ topB a (a.length - lowW a)).getD 2 0 = (a.length:Int) - lowW a:=rfl;have g3:([(x:Int),(lowW a:Int),(a.length:Int) - lowW a] ++ topB a (a.length - lowW a)).drop 3 = topB a (a.length - lowW a):=rfl;have gl:([(x:Int),(lowW a:Int),(a.length:Int) - lowW a] ++ topB a (a.length - lowW a)).length = 3 + 4 * (a.length - lowW a):=by simp [zqef]; omega
 have b0:bad0 (x:Int) = false:=by
  unfold bad0;simp only [Bool.or_eq_false_iff,Bool.and_eq_false_iff,decide_eq_false_iff_not];refine ⟨by omega,?_⟩
  by_cases hn:t < 0
  ·right; have:=hneg hn; omega
  ·left; intro e; exact hn (hx4.1 (by omega))
 have b1:bad1 (x:Int) (lowW a:Int) = false:=by
  unfold bad1;simp only [Bool.or_eq_false_iff,Bool.and_eq_false_iff,decide_eq_false_iff_not]
  by_cases hne:a = []
  ·subst hne; simp [lowW]
  ·have h1:=zqyt ht hne;have h2:=ha2 hne;exact ⟨by omega,.inr (by omega)⟩
 have b2:bad2 (x:Int) (lowW a:Int) ((a.length:Int) - lowW a) = false:=by
  unfold bad2;simp only [Bool.or_eq_false_iff,Bool.and_eq_false_iff,decide_eq_false_iff_not]
  by_cases hne:a = []
  ·subst hne;have ht0:¬ t < 0:=by
    have:wv ([]:List Int) = 0:=by simp [wv,wvN]
    rw [this] at hv; omega
   refine ⟨⟨by simp [lowW],.inl (by simp [lowW])⟩,.inr ⟨by simp [lowW],fun e => ht0 (hx4.1 (by omega))⟩⟩
  ·have h1:=zqyt ht hne;have h2:=ha2 hne;exact ⟨⟨by omega,.inr (by omega)⟩,.inl (by omega)⟩
 rw [g0,g1,g2,g3,gl,b0,b1,b2];rw [if_neg (by omega),if_neg (by decide),if_neg (by omega),if_neg (by decide),if_neg (by omega),if_neg (by decide)]
 have hn:((a.length:Int) - lowW a).toNat = a.length - lowW a:=by omega
 rw [hn];refine zqsb (by rw [zqef]) (fun h0 => ?_)
 have hne:a ≠ []:=by intro e; subst e; simp at h0
 refine ⟨?_,?_⟩
 ·rw [zxa3 hd h0,Nat.sub_zero];exact ht.resolve_left hne
 ·rw [zxa3 hd (by omega),show a.length - 1 - (a.length - lowW a - 1) = lowW a by omega]
  exact zqg4 a (by omega)
theorem OW.right {x:Int} {z:Wh} (h:OW x z) (hx:I64 x):rightW z = true:=by
 have hl:=h.len hx;unfold rightW;rw [h.abs,h.sum,h.mn,h.mx,zqlx.2 h.ty];simp only [Bool.and_true,Bool.and_eq_true,decide_eq_true_eq];refine ⟨⟨⟨⟨?_,?_⟩,?_⟩,?_⟩,?_⟩ <;> omega
theorem zxbg (x:Nat):lessB x x = false:=by simp [lessB]
theorem OR.right {x:Nat} {z:Re} (h:OR x z) (hx:W64 x):rightR z = true:=by
 unfold rightR;rw [zxa0 (zqmx x hx) h.sum,h.mn,h.mx,zxbg]
 rfl
theorem OC.right {S:Sc} {m:Int} {f:Fa} {c:Ce} (h:OC S m f c) (hf:FaWf f) (h0:oneE S m f = 0):rightC S m c = true:=by
 obtain ⟨q1,q2,q3,q4⟩:=zqpp h0;obtain ⟨o1,o2,o3⟩:=zqz8 q3;obtain ⟨f1,f2,f3,f4⟩:=zqph q2;have hz:=(zqeb q1).2;have hk:c.key < keysL S.ds m S.ds.length:=by
  rw [h.key,zqh8];unfold ofL;rw [if_pos q3];exact (zqjc (fun j hj => zqdg hz j (by omega)) (fun j hj hp => o3 j (by omega) hp)).2
 unfold rightC validC;rw [zqmh (fun k hk => (h.is k (by rw [← h.li]; exact hk)).right (zqd4 (P:=I64) hf.i (by rw [← h.li]; exact hk))),zqmg (fun k hk => (h.ns k (by rw [← h.ln]; exact hk)).right (zqd4 (P:=W64) hf.n (by rw [← h.ln]; exact hk)))]
 simp only [Bool.and_true,Bool.and_eq_true,decide_eq_true_eq];exact ⟨⟨q1,(zqg5 o1).2⟩,⟨⟨hk,by rw [h.cnt]; decide⟩,by rw [h.li,f2]⟩,by rw [h.ln,f3]⟩
end Go.Proofs.YtmnbljijnbhghaaGreatDoor
namespace Go.Proofs.YtmnbljijnbhghaaGreatDoor
set_option maxRecDepth 100000
open Go.RowKit
set_option linter.unusedVariables false
section
variable {P : Program} (w : World)
end
theorem zxae:∀ {ps:List (Value × Value × Ce)},(∀ p ∈ ps,p.1.oneCell' = true ∧ p.2.1.oneCell' = true) → ∀ u ∈ cellsC ps,u.oneCell' = true
 | [],_,u,hu => by cases hu
 | p :: ps,h,u,hu => by
  rcases List.mem_append.1 hu with hu | hu
  ·have:=h p (List.mem_cons_self ..);simp only [rowC,List.mem_cons,List.not_mem_nil,or_false] at hu;rcases hu with rfl | rfl | rfl | rfl
   ·rfl
   ·rfl
   ·exact this.1
   ·exact this.2
  ·exact zxae (fun q hq => h q (List.mem_cons_of_mem _ hq)) u hu
theorem zxam {w:World} {ps:List (Value × Value × Ce)} (h:∀ p ∈ ps,CeM w p.1 p.2.1 p.2.2):∀ u ∈ cellsC ps,u.oneCell' = true:=zxae fun p hp => (h p hp).ones
end Go.Proofs.YtmnbljijnbhghaaGreatDoor
namespace Go.Proofs.YtmnbljijnbhghaaGreatDoor
set_option maxRecDepth 100000
open Go.RowKit
set_option linter.unusedVariables false
set_option maxHeartbeats 8000000 in
theorem zxaz (w:World) (u v:Value) (l m:List Ce) (hu:Cells w u l) (hv:Cells w v m) (hw:LsW l) (hw':LsW m) :
  Calls Tryz.prog 24 #[u,v] w fun e w' => e = .returned (.bool (eqsC l m)) ∧ Below w.heap.size w w':=by
 have HU:=zh hu;have HV:=zh hv;have HW:=zh (fun k (hk:k < l.length) => hw.cg hk)
 have HW':=zh (fun k (hk:k < m.length) => hw'.cg hk)
 obtain ⟨a,cap,rfl,-,hmx,-⟩:=hu;obtain ⟨a',cap',rfl,-,-,-⟩:=hv
 by_cases hl:l.length = m.length
 ·have HY:=zh (fun (h:∀ k,k < l.length → sameC (cg l k) (cg m k) = true) => show eqsC l m = true by unfold eqsC; rw [decide_eq_true hl,Bool.true_and]; exact List.all_eq_true.2 fun x hx => h x (by simpa using hx))
  have HN:=zh (fun k (hk:k < l.length) (h:sameC (cg l k) (cg m k) = false) => show eqsC l m = false by unfold eqsC; rw [decide_eq_true hl,Bool.true_and]; exact List.all_eq_false.2 ⟨k,by simpa using hk,by simp [h]⟩)
  have hnn:((l.length:Int) != (m.length:Int)) = false:=by simp [hl]
  have HL:=zh hl;generalize eqsC l m = R at *;clear hw hw' hl;go_enter Tryz.func24,Tryz.ntmps24;go_wp2_with fail;go_loopw [5] (fun iv wr => ∃ k:Nat,k ≤ l.length ∧ iv = .int .i64 k ∧ Hid (Below w.heap.size w wr ∧ ∀ j,j < k → sameC (cg l j) (cg m j) = true)) (fun iv _ => l.length - (intOf iv).toNat)
  case atStart => exact ⟨0,Nat.zero_le _,rfl,zh ⟨Below.refl _ _,fun j hj => by omega⟩⟩
  case round =>
   obtain ⟨k,hk,rfl,HS⟩:=hrel
   by_cases hlk:k < l.length
   ·have hlk':(k:Int) < (l.length:Int):=by omega
    have hkb0:k < m.length:=by have:=HL.out; omega
    have hkb:(k:Int) < (m.length:Int):=by omega
    have hle:Hid (k + 1 ≤ l.length):=zh (by omega)
    obtain ⟨ba,oa,rfl,-,I,N,hqa⟩:=(HU.out.below HS.out.1).at hlk;obtain ⟨bb,ob,rfl,-,J,M,hqb⟩:=(HV.out.below HS.out.1).at hkb0;have HWx:=HW.out k hlk;have HWy:=HW'.out k hkb0;have HNk:=zh (fun h => HN.out k hlk h)
    have HSn:=zh (fun (h:sameC (cg l k) (cg m k) = true) j (hj:j < k + 1) => show sameC (cg l j) (cg m j) = true from if e:j = k then e ▸ h else HS.out.2 j (by omega))
    have HBk:=zh HS.out.1;generalize cg l k = x at *;generalize cg m k = y at *;have HC:=zh (fun w1 (hb:Below wr.heap.size wr w1) => zqow w1 x y I N J M (hqa.m.below hb) (hqb.m.below hb) HWx HWy)
    obtain ⟨⟨p,c,rfl⟩,q,d,rfl⟩:=hqa.m.slices;obtain ⟨⟨p',c',rfl⟩,q',d',rfl⟩:=hqb.m.slices;obtain ⟨f0,f1,f2,f3,-⟩:=hqa;obtain ⟨g0,g1,g2,g3,-⟩:=hqb;clear HWx HWy HS;generalize sameC x y = T at *;obtain ⟨x0,x1,x2,x3⟩:=x;obtain ⟨y0,y1,y2,y3⟩:=y
    dsimp only at f0 f1 f2 f3 g0 g1 g2 g3
    go_upto_region 6 with fail;have hk8:wr.drew.cell? ⟨ba,oa + k * 4,none⟩ = some (.int .u64 x0) ∧ wr.drew.cell? ⟨ba,oa + k * 4 + 1,none⟩ = some (.int .i64 x1) ∧ wr.drew.cell? ⟨ba,oa + k * 4 + 2,none⟩ = some (.slice p x2.length c) ∧ wr.drew.cell? ⟨ba,oa + k * 4 + 3,none⟩ = some (.slice q x3.length d) ∧ wr.drew.cell? ⟨bb,ob + k * 4,none⟩ = some (.int .u64 y0) ∧ wr.drew.cell? ⟨bb,ob + k * 4 + 1,none⟩ = some (.int .i64 y1) ∧ wr.drew.cell? ⟨bb,ob + k * 4 + 2,none⟩ = some (.slice p' y2.length c') ∧ wr.drew.cell? ⟨bb,ob + k * 4 + 3,none⟩ = some (.slice q' y3.length d'):=⟨f0,f1,f2,f3,g0,g1,g2,g3⟩;clear f0 f1 f2 f3 g0 g1 g2 g3;have hBw:Below wr.heap.size wr wr.drew:=(Below.refl _ _).drew;go_region_held3 (fun w' => w'.cell? ⟨ba,oa + k * 4,none⟩ = some (.int .u64 x0) ∧ w'.cell? ⟨ba,oa + k * 4 + 1,none⟩ = some (.int .i64 x1) ∧ w'.cell? ⟨ba,oa + k * 4 + 2,none⟩ = some (.slice p x2.length c) ∧ w'.cell? ⟨ba,oa + k * 4 + 3,none⟩ = some (.slice q x3.length d) ∧ w'.cell? ⟨bb,ob + k * 4,none⟩ = some (.int .u64 y0) ∧ w'.cell? ⟨bb,ob + k * 4 + 1,none⟩ = some (.int .i64 y1) ∧ w'.cell? ⟨bb,ob + k * 4 + 2,none⟩ = some (.slice p' y2.length c') ∧ w'.cell? ⟨bb,ob + k * 4 + 3,none⟩ = some (.slice q' y3.length d')) (with_reducible exact hk8)
     (first | (go_at_call 18; refine (HC.out _ hBw).mono ?_; rintro e w1 ⟨rfl,hb1⟩; replace hk8:=hold8 hb1 hk8; have hBw:=zqaa hBw hb1; clear hb1))
    have HB1:=zh (zqaa HBk.out hBw);clear HC hk8 hBw;cases T with
    | true =>
     have HJ:=zh (HSn.out rfl);go_wp2_with fail;go_roundw
     case rel => exact ⟨k + 1,hle.out,by go_num,zh ⟨HB1.out,HJ.out⟩⟩
     case measure => simp [intOf]; omega
    | false =>
     have hR:=HNk.out rfl;subst hR;go_wp2_with fail;go_ret;exact ⟨rfl,HB1.out⟩
   ·have:k = l.length:=by omega
    subst this;have hR:=HY.out HS.out.2;subst hR;go_wp2_with fail;go_ret;exact ⟨rfl,HS.out.1⟩
 ·have hR:eqsC l m = false:=by unfold eqsC; rw [decide_eq_false hl]; rfl
  rw [hR];have hnn:((l.length:Int) != (m.length:Int)) = true:=by simp; omega
  clear HU HV HW HW' hw hw' hl;go_enter Tryz.func24,Tryz.ntmps24;go_wp2_with fail;go_ret;exact ⟨rfl,Below.refl _ _⟩
theorem zxba {l:List Ce}:risingB l = true ↔ risingC l:=by
 constructor
 ·intro h;unfold risingC;rw [List.pairwise_iff_getElem];intro i j hi hj hij;have:=zqew h i j hij hj
  rwa [zqat hi,zqat hj] at this
 ·intro h;rw [zqdq];intro i hi;unfold risingC at h;rw [List.pairwise_iff_getElem] at h;rw [zqat (by omega),zqat hi]
  exact h i (i + 1) (by omega) hi (by omega)
theorem size4:∃ i,Tryz.prog.info? 38 = some i ∧ i.size = 4:=by
 obtain ⟨i0,hi,hz0,hz1,hz2⟩:=info_parts Tryz.infoCell;exact ⟨i0,hi,hz1⟩
theorem zxbc {w:World} {a:Option Addr} {cap l k:Nat} (hk:k ≤ l) (hs:∃ i,Tryz.prog.info? 38 = some i ∧ i.size = 4):(Instr.slice 28 (.slice a l cap) (some (.int .i64 k)) none none).run Tryz.prog w = .ok (.slice (if cap = k then a else a.map (·.add (k * 4))) (l - k) (cap - k)) w:=by
 obtain ⟨i,hi,hs⟩:=hs;simp [Instr.slice,run_underlying Tryz.underlying28,Instr.sliceBounds,Instr.sliceBound,asIntOf,sizeOf,typeInfo,hi,hs,hk,go_sem]
def JAt (W:World) (M:Nat) (c:Ce) (I N:Value) (wx:World):Prop:=Below W.heap.size W wx ∧ W.heap.size ≤ M ∧ wx.heap[M]? = some (.cells (boxV c.key c.cnt I N) 38 (0,0)) ∧ CeOwn wx W.heap.size I N c
theorem zxbs {W w3:World} {c:Ce} {I N:Value} {B:Nat} (hb:Below W.heap.size W w3) (ho:CeOwn w3 B I N c) (hB:W.heap.size ≤ B):JAt W w3.heap.size c I N (w3.alloc (CeO c I N)) :=
 ⟨zqaa hb (zqab _ _),hb.size,heap_alloc_new _ _,(ho.low hB).below (zqab _ _)⟩
theorem zxbt {W w3:World} {c:Ce} {I N:Value} {B:Nat} (hM:w3.heap[W.heap.size]? = some (.cells (boxV 0 0 (.slice none 0 0) (.slice none 0 0)) 38 (0,0))) (hb:Below W.heap.size W w3) (ho:CeOwn w3 B I N c) (hB:W.heap.size ≤ B):JAt W W.heap.size c I N (set4 w3 W.heap.size c.key c.cnt I N):=by
 obtain ⟨ps,qs,h1,h2,h3,h4⟩:=ho.low hB;exact ⟨zqao hb (Nat.le_refl _),Nat.le_refl _,zqan hM,ps,qs,zqg7 hM (by decide) (by decide) h1,zqg6 hM (by decide) (by decide) h2,h3,h4⟩
theorem zxaj:∀ (l acc:List Ce),risingC acc → (foldC acc l).1 = 0 → risingC (foldC acc l).2
 | [],acc,h,_ => h
 | c :: l,acc,h,e => by
  unfold foldC at e ⊢
  by_cases q:(withL acc c).1 = 0
  ·rw [if_pos q] at e ⊢;refine zxaj l _ ?_ e;cases hl:lookC acc c.key with
   | none => exact (zqx1 h (zqg3 hl)).2.2.1
   | some x =>
    obtain ⟨hx,hk⟩:=zqde hl;obtain ⟨i1,i2⟩:=zqir h hx hk;exact (i2 (i1.symm.trans q)).2.1
  ·rw [if_neg q] at e; exact absurd e q
end Go.Proofs.YtmnbljijnbhghaaGreatDoor
