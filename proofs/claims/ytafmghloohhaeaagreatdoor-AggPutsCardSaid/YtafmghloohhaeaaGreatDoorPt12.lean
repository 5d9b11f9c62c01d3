/- Contracts that the law leans on: Natg Natf Nato Natr Natv Power. -/
import Derived.Deep.LoopGhost
import Derived.WalkSpells
import Derived.RegionTactic
import Derived.ChangeAlike
import Derived.Laws.IdiomStrings
import Derived.Test.YtafmghloohhaeaaGreatDoorPt02
import Derived.Test.YtafmghloohhaeaaGreatDoorPt04
import Derived.Test.YtafmghloohhaeaaGreatDoorPt05
namespace Go.Proofs.YtafmghloohhaeaaGreatDoor
set_option maxRecDepth 100000
open Go.RowKit
set_option linter.unusedVariables false
theorem zqnm {l:List Int} {j:Nat} {x:Int}:wvN (l.set j x) j = wvN l j:=zqg7 (fun i hi => by rw [List.getD,List.getD,List.getElem?_set_ne (by omega)])
theorem zqf3 {l:List Int} {j:Nat} {x:Int} (h:j < l.length):(l.set j x).getD j 0 = x:=by simp [List.getD,h]
theorem zqdd {l:List Int} {i j:Nat} {x:Int} (h:j ≠ i):(l.set j x).getD i 0 = l.getD i 0:=by rw [List.getD,List.getD,List.getElem?_set_ne h]
theorem zqcd {l:List Int} {j:Nat} {x:Int} (h:j < l.length):wvN (l.set j x) (j + 1) = wvN l j + x * 4294967296 ^ j:=by
 rw [wvN,zqnm,zqf3 h]
theorem Wd.set {l:List Int} (hd:Wd l) {j:Nat} {x:Int} (h1:0 ≤ x) (h2:x ≤ 4294967295):Wd (l.set j x):=by
 intro y hy;rcases List.mem_or_eq_of_mem_set hy with h | h
 ·exact hd y h
 ·subst h; exact ⟨h1,h2⟩
theorem Wd.zeros (n:Nat):Wd (List.replicate n 0):=fun x hx => by have:=List.eq_of_mem_replicate hx; omega
def AddRel (a b:List Int) (i:Nat) (out:List Int) (c:Int):Prop:=wvN a i + wvN b i = wvN out i + 4294967296 ^ i * c ∧ Wd out ∧ out.length = a.length + 1 ∧ 0 ≤ c ∧ c ≤ 1
theorem AddRel.start (a b:List Int):AddRel a b 0 (List.replicate (a.length + 1) 0) 0:=⟨by simp [wvN],Wd.zeros _,by simp,by omega,by omega⟩
theorem AddRel.step {a b out:List Int} {i:Nat} {c:Int} (ha:Wd a) (hb:Wd b) (h:AddRel a b i out c) (hi:i < a.length) (x y:Int) (hx:a.getD i 0 = x) (hy:b.getD i 0 = y) :
  AddRel a b (i + 1) (out.set i ((x + y + c) % 4294967296)) ((x + y + c) / 4294967296):=by
 obtain ⟨h1,h2,h3,h4,h5⟩:=h;have h6:=ha.getD i;have h7:=hb.getD i;rw [hx] at h6;rw [hy] at h7;refine ⟨?_,h2.set (by omega) (by omega),by simpa using h3,by omega,by omega⟩
 rw [zqcd (by omega),wvN,wvN,hx,hy,zqfh]
 have e:=zqe9 (x + y + c) (4294967296 ^ i);have e1:(x + y + c) * 4294967296 ^ i = x * 4294967296 ^ i + y * 4294967296 ^ i + c * 4294967296 ^ i:=by rw [Int.add_mul,Int.add_mul]
 have e2:4294967296 ^ i * 4294967296 * ((x + y + c) / 4294967296) = (x + y + c) / 4294967296 * (4294967296 ^ i * 4294967296):=Int.mul_comm _ _;have e3:4294967296 ^ i * c = c * 4294967296 ^ i:=Int.mul_comm _ _;omega
theorem AddRel.stop {a b out:List Int} {c:Int} (h:AddRel a b a.length out c) (hl:b.length ≤ a.length):wv (out.set a.length c) = wv a + wv b ∧ Wd (out.set a.length c) ∧ (out.set a.length c).length = a.length + 1:=by
 obtain ⟨h1,h2,h3,h4,h5⟩:=h;refine ⟨?_,h2.set h4 (by omega),by simpa using h3⟩
 have e:(out.set a.length c).length = a.length + 1:=by simpa using h3
 rw [wv,e,zqcd (by omega),wv,← zqcr b hl,h1,Int.mul_comm c]
def Fill (w:World) (g:Nat) (cap:Nat) (out:List Int) (wr:World):Prop:=WRow wr w.heap.size g cap out ∧ Below w.heap.size w wr
theorem Fill.set {w wr:World} {g cap:Nat} {out:List Int} (h:Fill w g cap out wr) (j:Nat) (x:Int):Fill w g cap (out.set j x) (wr.setCell ⟨g,j,none⟩ (.int .u32 x)) :=
 ⟨h.1.set j x,zqr6 h.2 h.1.facts.1 j _⟩
theorem Fill.drewN {w wr:World} {g cap:Nat} {out:List Int} (h:Fill w g cap out wr) (n:Nat):Fill w g cap out (wr.drewN n):=⟨h.1.drewN n,below_drewN h.2 n⟩
theorem Fill.cells {w wr:World} {g cap:Nat} {out:List Int} (h:Fill w g cap out wr) {j:Nat} (hj:j < out.length):wr.cell? ⟨g,j,none⟩ = some (.int .u32 (out.getD j 0)) ∧ wr.frozen? ⟨g,j,none⟩ = false:=h.1.facts.2.2.2.2 j hj
theorem zqeb {w wr:World} {g cap n:Nat} {out:List Int} {v:Value} {z:Int} {m:Nat} (h:Fill w g cap out wr) (hd:Wd out) (hl:out.length ≤ 1099511627776) (hz:wv out = z) (hm:out.length ≤ m) (hc:Cut (some ⟨g,0,none⟩) cap out v n):Fresh w z m (.returned v) wr:=by
 have hw:=hc.wlist (h.1.wlist hd hl);exact ⟨v,_,rfl,hc.own h.1,hw.1.2.1,hw.2.2,hw.2.1.trans hz,by rw [List.length_take]; omega,h.2⟩
set_option maxHeartbeats 1000000 in
theorem zqoh (u v:Value) (a b:List Int) (w:World) (hu:WList w u a) (hv:WList w v b) (la:a.length ≤ 1099511627775) (lb:b.length ≤ 1099511627775) :
  Calls Tryz.prog 90 #[u,v] w (Fresh w (wv a + wv b) (max a.length b.length + 1)):=by
 obtain ⟨i0,hi,hz0,hz1,hz2⟩:=info_parts Tryz.infoU32;obtain ⟨p,c,rfl⟩:=hu.shape;obtain ⟨q,d,rfl⟩:=hv.shape;have HU:=zh hu;have HV:=zh hv;clear hu hv
 by_cases hab:a.length < b.length
 ·go_enter Tryz.func90,Tryz.ntmps90;have hle:Hid (a.length ≤ b.length):=zh (by omega)
  have hmx:Hid (max a.length b.length = b.length):=zh (by omega)
  go_wp2_with (at_make; refine wpList_make_full _ rfl _ _ 24 rfl w.heap.size 27 i0 (.int .u32 0) 1 Tryz.underlying24 hi hz0 hz1 .i64 .i64 _ _ (b.length + 1) rfl rfl (by omega) (by omega) (by rw [hz2]; omega) (by unfold maxLen; omega) (by simp) ?_; intro w0 hown hgrow)
  have hF:=zh (zqcc rfl hown hgrow);clear hown hgrow;go_wp2_with fail;go_loopw [6,22] (fun cy i wr => ∃ (k:Nat) (out:List Int) (cr:Int),k ≤ b.length ∧ i = .int .i64 k ∧ cy = .int .u32 cr ∧ Hid (AddRel b a k out cr) ∧ Hid (Fill w w.heap.size (b.length + 1) out wr)) (fun _ i _ => b.length - (intOf i).toNat)
  case atStart => exact ⟨0,_,0,Nat.zero_le _,rfl,rfl,zh (AddRel.start b a),hF⟩
  case round =>
   obtain ⟨k,out,cr,hk,rfl,rfl,hR,hS⟩:=hrel;clear hF;have c0:=hR.out.2.2.2.1;have c1:=hR.out.2.2.2.2;have hlen:=zh hR.out.2.2.1
   by_cases hlt:k < b.length
   ·have ho:k < b.length + 1:=by omega
    obtain ⟨ho1,ho2⟩:=hS.out.cells (j:=k) (by have:=hlen.out; omega)
    obtain ⟨b1,o1,hp1,hb1,hc1⟩:=HV.out.1.cell (i:=k) hlt;subst hp1;have hc1:=cell_later hS.out.2 hc1;have dx:=HV.out.2.1.getD k;have dy:=HU.out.2.1.getD k;have hst:=zh (fun (x y:Int) (hx:b.getD k 0 = x) (hy:a.getD k 0 = y) => hR.out.step HV.out.2.1 HU.out.2.1 hlt x y hx hy)
    generalize b.getD k 0 = x at *;have hSS:=zh (fun (z:Int) => hS.out.set k z)
    by_cases hyl:k < a.length
    ·obtain ⟨b2,o2,hp2,hb2,hc2⟩:=HU.out.1.cell (i:=k) hyl;subst hp2;have hc2:=cell_later hS.out.2 hc2;generalize a.getD k 0 = y at *;have hst2:=zh (hst.out x y rfl rfl);clear hst hS hR hb1 hb2;go_wp2_with (go_at_call 130; refine (zqel x y cr dx.1 dx.2 dy.1 dy.2 c0 (by omega) _).mono ?_; rintro e w' ⟨rfl,rfl⟩)
     go_roundw
     case rel => exact ⟨k + 1,_,_,by omega,by go_num,rfl,hst2,zh (hSS.out _)⟩
     case measure => simp [intOf]; omega
    ·have hy0:a.getD k 0 = 0:=zqa8 (by omega)
     have hst2:=zh (hst.out x 0 rfl hy0);rw [Int.add_zero] at hst2;clear hst hS hR hb1 hy0 dy;go_wp2_with (go_at_call 130; refine (zqel x 0 cr dx.1 dx.2 (by decide) (by decide) c0 (by omega) _).mono ?_; rintro e w' ⟨rfl,rfl⟩)
     go_roundw
     case rel => exact ⟨k + 1,_,_,by omega,by go_num,rfl,hst2,zh (hSS.out _)⟩
     case measure => simp [intOf]; omega
   ·obtain rfl:k = b.length:=by omega
    obtain ⟨ho1,ho2⟩:=hS.out.cells (j:=b.length) (by have:=hlen.out; omega)
    have hE:=zh (hR.out.stop hle.out);have hT:=zh (hS.out.set b.length cr);have hl2:=hE.out.2.2;have hW:=zh (hT.out.1.wlist hE.out.2.1 (by omega))
    have HS:=zh (zqbv _ _ _ _ _ hW.out.1 (by omega))
    rw [hl2] at HS;clear hR hS hl2 hW;go_wp2_with fail;refine (HS.out).mono ?_; rintro e w' ⟨u1,n,rfl,hc,rfl⟩;go_wp2_with fail;go_ret;exact zqeb hT.out hE.out.2.1 (by have:=hE.out.2.2; omega) (by rw [hE.out.1]; exact Int.add_comm _ _) (by have:=hE.out.2.2; have:=hmx.out; omega) hc
 ·go_enter Tryz.func90,Tryz.ntmps90;have hle:Hid (b.length ≤ a.length):=zh (by omega)
  have hmx:Hid (max a.length b.length = a.length):=zh (by omega)
  go_wp2_with (at_make; refine wpList_make_full _ rfl _ _ 24 rfl w.heap.size 27 i0 (.int .u32 0) 1 Tryz.underlying24 hi hz0 hz1 .i64 .i64 _ _ (a.length + 1) rfl rfl (by omega) (by omega) (by rw [hz2]; omega) (by unfold maxLen; omega) (by simp) ?_; intro w0 hown hgrow)
  have hF:=zh (zqcc rfl hown hgrow);clear hown hgrow;go_wp2_with fail;go_loopw [6,22] (fun cy i wr => ∃ (k:Nat) (out:List Int) (cr:Int),k ≤ a.length ∧ i = .int .i64 k ∧ cy = .int .u32 cr ∧ Hid (AddRel a b k out cr) ∧ Hid (Fill w w.heap.size (a.length + 1) out wr)) (fun _ i _ => a.length - (intOf i).toNat)
  case atStart => exact ⟨0,_,0,Nat.zero_le _,rfl,rfl,zh (AddRel.start a b),hF⟩
  case round =>
   obtain ⟨k,out,cr,hk,rfl,rfl,hR,hS⟩:=hrel;clear hF;have c0:=hR.out.2.2.2.1;have c1:=hR.out.2.2.2.2;have hlen:=zh hR.out.2.2.1
   by_cases hlt:k < a.length
   ·have ho:k < a.length + 1:=by omega
    obtain ⟨ho1,ho2⟩:=hS.out.cells (j:=k) (by have:=hlen.out; omega)
    obtain ⟨b1,o1,hp1,hb1,hc1⟩:=HU.out.1.cell (i:=k) hlt;subst hp1;have hc1:=cell_later hS.out.2 hc1;have dx:=HU.out.2.1.getD k;have dy:=HV.out.2.1.getD k;have hst:=zh (fun (x y:Int) (hx:a.getD k 0 = x) (hy:b.getD k 0 = y) => hR.out.step HU.out.2.1 HV.out.2.1 hlt x y hx hy)
    generalize a.getD k 0 = x at *;have hSS:=zh (fun (z:Int) => hS.out.set k z)
    by_cases hyl:k < b.length
    ·obtain ⟨b2,o2,hp2,hb2,hc2⟩:=HV.out.1.cell (i:=k) hyl;subst hp2;have hc2:=cell_later hS.out.2 hc2;generalize b.getD k 0 = y at *;have hst2:=zh (hst.out x y rfl rfl);clear hst hS hR hb1 hb2;go_wp2_with (go_at_call 130; refine (zqel x y cr dx.1 dx.2 dy.1 dy.2 c0 (by omega) _).mono ?_; rintro e w' ⟨rfl,rfl⟩)
     go_roundw
     case rel => exact ⟨k + 1,_,_,by omega,by go_num,rfl,hst2,zh (hSS.out _)⟩
     case measure => simp [intOf]; omega
    ·have hy0:b.getD k 0 = 0:=zqa8 (by omega)
     have hst2:=zh (hst.out x 0 rfl hy0);rw [Int.add_zero] at hst2;clear hst hS hR hb1 hy0 dy;go_wp2_with (go_at_call 130; refine (zqel x 0 cr dx.1 dx.2 (by decide) (by decide) c0 (by omega) _).mono ?_; rintro e w' ⟨rfl,rfl⟩)
     go_roundw
     case rel => exact ⟨k + 1,_,_,by omega,by go_num,rfl,hst2,zh (hSS.out _)⟩
     case measure => simp [intOf]; omega
   ·obtain rfl:k = a.length:=by omega
    obtain ⟨ho1,ho2⟩:=hS.out.cells (j:=a.length) (by have:=hlen.out; omega)
    have hE:=zh (hR.out.stop hle.out);have hT:=zh (hS.out.set a.length cr);have hl2:=hE.out.2.2;have hW:=zh (hT.out.1.wlist hE.out.2.1 (by omega))
    have HS:=zh (zqbv _ _ _ _ _ hW.out.1 (by omega))
    rw [hl2] at HS;clear hR hS hl2 hW;go_wp2_with fail;refine (HS.out).mono ?_; rintro e w' ⟨u1,n,rfl,hc,rfl⟩;go_wp2_with fail;go_ret;exact zqeb hT.out hE.out.2.1 (by have:=hE.out.2.2; omega) (by rw [hE.out.1]) (by have:=hE.out.2.2; have:=hmx.out; omega) hc
theorem zqt9 {w:World} {B:Nat} {v:Value} {a:List Int} (h:w.ownsRow B 27 1 v a.length (a.map (Value.int .u32))) :
  (v = .slice none 0 0 ∧ a = []) ∨ ∃ g cap,v = .slice (some ⟨g,0,none⟩) a.length cap ∧ WRow w B g cap a:=by
 rcases h.2 with ⟨rfl,h0⟩ | ⟨g,cap,cur,rfl,_⟩
 ·exact .inl ⟨rfl,List.length_eq_zero_iff.1 h0⟩
 ·exact .inr ⟨g,cap,rfl,h⟩
def SubRel (a b:List Int) (i:Nat) (out:List Int) (c:Int):Prop :=
 wvN a i - wvN b i = wvN out i - 4294967296 ^ i * c ∧ Wd out ∧ out.length = a.length ∧ 0 ≤ c ∧ c ≤ 1 ∧ ∀ j,i ≤ j → out.getD j 0 = a.getD j 0
theorem SubRel.start {a:List Int} (b:List Int) (ha:Wd a):SubRel a b 0 a 0:=⟨by simp [wvN],ha,rfl,by omega,by omega,fun _ _ => rfl⟩
theorem SubRel.step {a b out:List Int} {i:Nat} {c:Int} (hb:Wd b) (h:SubRel a b i out c) (hi:i < a.length) (x y:Int) (hx:out.getD i 0 = x) (hy:b.getD i 0 = y) :
  SubRel a b (i + 1) (out.set i ((x - y - c) % 4294967296)) (-((x - y - c) / 4294967296)):=by
 obtain ⟨h1,h2,h3,h4,h5,h8⟩:=h;have h6:=h2.getD i;have h7:=hb.getD i;have hxa:=h8 i (Nat.le_refl _);rw [hx] at h6 hxa;rw [hy] at h7;refine ⟨?_,h2.set (by omega) (by omega),by simpa using h3,by omega,by omega,fun j hj => ?_⟩
 ·rw [zqcd (by omega),wvN,wvN,← hxa,hy,zqfh]
  have e:=zqe9 (x - y - c) (4294967296 ^ i);have e1:(x - y - c) * 4294967296 ^ i = x * 4294967296 ^ i - y * 4294967296 ^ i - c * 4294967296 ^ i:=by rw [Int.sub_mul,Int.sub_mul]
  have e2:4294967296 ^ i * 4294967296 * (-((x - y - c) / 4294967296)) = -((x - y - c) / 4294967296 * (4294967296 ^ i * 4294967296)):=by rw [Int.mul_neg,Int.mul_comm]
  have e3:4294967296 ^ i * c = c * 4294967296 ^ i:=Int.mul_comm _ _;omega
 ·rw [zqdd (by omega)]; exact h8 j (by omega)
theorem SubRel.stop {a b out:List Int} {c:Int} (ha:Wd a) (hb:Wd b) (h:SubRel a b a.length out c) (hle:wv b ≤ wv a):wv out = wv a - wv b:=by
 obtain ⟨h1,h2,h3,h4,h5,h8⟩:=h;have r1:=zqbb ha;have r2:=zqbb h2;rw [h3] at r2;rw [zqvt hb (n:=a.length) (by omega),zqcr a (Nat.le_refl _),zqcr out (by omega)] at h1
 have:c = 0 ∨ c = 1:=by omega
 rcases this with rfl | rfl
 ·simp at h1; omega
 ·simp at h1; omega
def FreshOk (w:World) (z:Int) (m:Nat) (e:Ending) (w':World):Prop :=
 ∃ v,e = .returned (.tuple #[v,.bool true]) ∧ Fresh w z m (.returned v) w'
def NoneOk (w:World) (e:Ending) (w':World):Prop:=e = .returned (.tuple #[.slice none 0 0,.bool false]) ∧ Below w.heap.size w w'
theorem Fresh.below {w w1 w2:World} {z:Int} {m:Nat} {v:Value} (hb:Below w.heap.size w w1) (h:Fresh w1 z m (.returned v) w2):Fresh w z m (.returned v) w2:=by
 obtain ⟨v',a,e,h1,h2,h3,h4,h5,h6⟩:=h;refine ⟨v',a,e,?_,h2,h3,h4,h5,hb.trans (h6.mono hb.size)⟩;refine ⟨h1.1,?_⟩;rcases h1.2 with h | ⟨g,cap,cur,r1,r2,r3⟩
 ·exact .inl h
 ·exact .inr ⟨g,cap,cur,r1,by have:=hb.size; omega,r3⟩
set_option maxHeartbeats 1000000 in
theorem zqyx (u v:Value) (a b:List Int) (w:World) (hu:WList w u a) (hv:WList w v b) (hlt:wv a < wv b) :
  Calls Tryz.prog 158 #[u,v] w (NoneOk w):=by
 have HC:=zh (zqol u v a b w hu hv);rw [zqg8 hlt] at HC;clear hlt hu hv;go_enter Tryz.func158,Tryz.ntmps158;go_wp2_with fail;refine (HC.out).mono ?_; rintro e w' ⟨rfl,nd,rfl⟩;go_wp2_with fail;go_ret2;exact ⟨rfl,below_drewN (Below.refl _ _) nd⟩
set_option maxHeartbeats 1000000 in
theorem zqpf (u v:Value) (a b:List Int) (w:World) (hu:WList w u a) (hv:WList w v b) (hle:wv b ≤ wv a) :
  Calls Tryz.prog 158 #[u,v] w (FreshOk w (wv a - wv b) a.length):=by
 have HC:=zh (zqol u v a b w hu hv);have HT:=zh (fun w1 (h:WList w1 u a) => zqne u a w1 h _ rfl)
 have hcm:0 ≤ cmpI (wv a) (wv b):=zqfd.2 hle;generalize cmpI (wv a) (wv b) = cm at *;have HU:=zh hu;have HV:=zh hv;have HLE:=zh hle;obtain ⟨q,d,rfl⟩:=hv.shape;have lb:=hv.2.2;have lA:=zh hu.2.2;clear hu hv hle;go_enter Tryz.func158,Tryz.ntmps158;go_wp2_with fail;refine (HC.out).mono ?_; rintro e w' ⟨rfl,nd,rfl⟩;have hb0:=below_drewN (Below.refl w.heap.size w) nd;generalize w.drewN nd = W at *;have hb0:=zh hb0;go_wp2_with fail;refine (HT.out _ (HU.out.below hb0.out)).mono ?_; rintro e w1 ⟨u1,x,rfl,hown,hd,ht,hz,hm,hb1⟩;have HV1:=zh (HV.out.below hb0.out);have HD:=zh hd;have HZ:=zh hz;have HM:=zh hm;have lx:x.length ≤ 1099511627776:=by have:=lA.out; omega
 clear hd ht hz hm HU HV HT HC;rcases zqt9 hown with ⟨rfl,rfl⟩ | ⟨g,cap,rfl,hr⟩
 ·have hE:wv a - wv b = 0:=by
   have h1:=HZ.out;have h2:=(zqbb HV1.out.2.1).1;have h3:=HLE.out;rw [zqvv] at h1; omega
  have HE:=zh hE;have HS:=zh (zqbv none 0 0 [] w1 WList.nil.1 (by decide))
  have HB:=zh hb1;clear hE hown hb1;go_wp2_with fail;go_loop [18] (fun i => i = .int .i64 0) (fun _ => 0)
  case atStart => rfl
  case round =>
   subst hrel;go_wp2_with fail;refine (HS.out).mono ?_; rintro e w' ⟨u1,n,rfl,hc,rfl⟩;have hw:=hc.wlist (w:=w1) WList.nil;go_wp2_with fail;go_ret2;refine ⟨_,rfl,Fresh.below hb0.out ⟨_,_,rfl,?_,hw.1.2.1,hw.2.2,by rw [hw.2.1,HE.out]; rfl,by simp,HB.out⟩⟩
   rcases hc.1 with ⟨rfl,rfl⟩ | ⟨h0,rfl⟩
   ·exact World.ownsRow_nil _ _ _ _
   ·have:=hc.2.1; simp at this; omega
 ·have hF:Fill W g cap x w1:=⟨hr,hb1⟩;have hF:=zh hF;have hg:=hr.facts.1;clear hown hr hb1;go_wp2_with fail;go_loopw [7,18] (fun cy i wr => ∃ (k:Nat) (out:List Int) (cr:Int),k ≤ x.length ∧ i = .int .i64 k ∧ cy = .int .u32 cr ∧ Hid (SubRel x b k out cr) ∧ Hid (Fill W g cap out wr)) (fun _ i _ => x.length - (intOf i).toNat)
  case atStart => exact ⟨0,_,0,Nat.zero_le _,rfl,rfl,zh (SubRel.start b HD.out),hF⟩
  case round =>
   obtain ⟨k,out,cr,hk,rfl,rfl,hR,hS⟩:=hrel;clear hF;have hB:=zh (HV1.out.below hS.out.2);have c0:=hR.out.2.2.2.1;have c1:=hR.out.2.2.2.2.1;have hlen:=zh hR.out.2.2.1
   by_cases hlt:k < x.length
   ·obtain ⟨ho1,ho2⟩:=hS.out.cells (j:=k) (by have:=hlen.out; omega)
    have dx:=hR.out.2.1.getD k;have dy:=hB.out.2.1.getD k;have hst:=zh (fun (s t:Int) (hx:out.getD k 0 = s) (hy:b.getD k 0 = t) => hR.out.step hB.out.2.1 hlt s t hx hy)
    generalize out.getD k 0 = s at *;have hSS:=zh (fun (z:Int) => hS.out.set k z)
    by_cases hyl:k < b.length
    ·obtain ⟨b2,o2,hp2,hb2,hc2⟩:=hB.out.1.cell (i:=k) hyl;subst hp2;generalize b.getD k 0 = y at *;have hst2:=zh (hst.out s y rfl rfl);clear hst hS hR hb2;go_wp2_with (go_at_call 174; refine (zqlh s y cr dx.1 dx.2 dy.1 dy.2 c0 c1 _).mono ?_; rintro e w' ⟨rfl,rfl⟩);go_roundw
     case rel => exact ⟨k + 1,_,_,by omega,by go_num,rfl,hst2,zh (hSS.out _)⟩
     case measure => simp [intOf]; omega
    ·have hy0:b.getD k 0 = 0:=zqa8 (by omega)
     have hst2:=zh (hst.out s 0 rfl hy0);rw [Int.sub_zero] at hst2;have hs32:=zh (fun w1 => zqlh s 0 cr dx.1 dx.2 (by decide) (by decide) c0 c1 w1)
     rw [Int.sub_zero] at hs32;clear hst hS hR hy0 dy;go_wp2_with (go_at_call 174; refine (hs32.out _).mono ?_; rintro e w' ⟨rfl,rfl⟩);go_roundw
     case rel => exact ⟨k + 1,_,_,by omega,by go_num,rfl,hst2,zh (hSS.out _)⟩
     case measure => simp [intOf]; omega
   ·obtain rfl:k = x.length:=by omega
    have hE:=zh (hR.out.stop HD.out hB.out.2.1 (by have:=HZ.out; have:=HLE.out; omega))
    have hl2:=hlen.out;have hW:=zh (hS.out.1.wlist hR.out.2.1 (by omega))
    have HS:=zh (zqbv _ _ _ _ _ hW.out.1 (by omega))
    rw [hl2] at HS;have hDo:=zh hR.out.2.1;clear hR hl2 hW;go_wp2_with fail;refine (HS.out).mono ?_; rintro e w' ⟨u1,n,rfl,hc,rfl⟩;go_wp2_with fail;go_ret2;exact ⟨_,rfl,Fresh.below hb0.out (zqeb hS.out hDo.out (by have:=hlen.out; omega) (by rw [hE.out,HZ.out]) (by have:=hlen.out; have:=HM.out; omega) hc)⟩
def Tab (w:World):Prop:=TabAt 1 Lib.deBruijn32tab w
theorem Tab.call {w w':World} (h:Tab w) (hb:Below w.heap.size w w'):Tab w':=fun j hj => cell_later hb (h j hj)
set_option maxHeartbeats 1000000 in
theorem tz32_core (x k idx:Nat) (w:World) (hx0:((x:Int) == 0) = false)
  (key:bits BinOp.and IntKind.u32 (x:Int) (-(x:Int) % 4294967296) * 125613361 % 4294967296 / 134217728 = (idx:Int))
  (hi:idx < 32) (hk:k < 32) (hcell:w.cell? ⟨1,idx,none⟩ = some (.int .u8 k)) :
  Calls Tryz.prog 157 #[.int .u32 x] w fun e w' => e = .returned (.int .i64 k) ∧ w = w':=by
 go_enter Tryz.func157,Tryz.ntmps157;go_wp2_with (simp only [key]);go_ret;exact ⟨rfl,rfl⟩
theorem zqy3 (x:Nat) (hx:x < 4294967296) (hx0:x ≠ 0) (w:World) (hT:Tab w) :
  Calls Tryz.prog 157 #[.int .u32 x] w fun e w' => e = .returned (.int .i64 (Lib.ctz 32 x)) ∧ w = w':=by
 obtain ⟨hlow,hk⟩:=Lib.lowest_bit 32 x hx0 hx;obtain ⟨hi,htab⟩:=Lib.deBruijn32_at _ hk;have hcell:=hT _ hi;rw [htab] at hcell;exact tz32_core x _ _ w (by simp; omega) (tz32_key x _ hx hx0 hlow) hi hk hcell
def Halved (z:Int) (n:Nat):Prop:=(z = 0 ∧ n = 0) ∨ ∃ m:Nat,z = 2 ^ n * (2 * m + 1)
def HalvedPost (z:Int) (w:World) (e:Ending) (w':World):Prop:=∃ n:Nat,e = .returned (.int .i64 n) ∧ Halved z n ∧ w = w'
theorem zqlr {a:List Int} {k:Nat} (h:∀ j,j < k → a.getD j 0 = 0):wvN a k = 0:=by
 have:=zqg7 (a:=a) (b:=[]) (n:=k) (fun i hi => by rw [h i hi]; rfl)
 rw [this];have e:∀ n,wvN [] n = 0:=fun n => by
  induction n with
  | zero => rfl
  | succ n ih => rw [wvN,ih]; simp
 exact e k
theorem pow32 (k:Nat):(4294967296:Int) ^ k = 2 ^ (k * 32):=by
 rw [Nat.mul_comm,Int.pow_mul]; rfl
theorem zqvu (a:List Int) (k n:Nat):wvN a (k + n) = wvN a k + 4294967296 ^ k * wvN (a.drop k) n:=by
 induction n with
 | zero => simp [wvN]
 | succ n ih =>
  rw [← Nat.add_assoc,wvN,ih,wvN];have e:(a.drop k).getD n 0 = a.getD (k + n) 0:=by simp [List.getD]
  rw [e,Int.mul_add,Int.pow_add];have:a.getD (k + n) 0 * (4294967296 ^ k * 4294967296 ^ n) = 4294967296 ^ k * (a.getD (k + n) 0 * 4294967296 ^ n):=by
   rw [← Int.mul_assoc,Int.mul_comm (a.getD (k + n) 0),Int.mul_assoc]
  omega
theorem zqno (a:List Int) {k:Nat} (hk:k ≤ a.length):wv a = wvN a k + 4294967296 ^ k * wv (a.drop k):=by
 have h:=zqvu a k (a.length - k);rw [show k + (a.length - k) = a.length from by omega] at h
 rw [wv,h,wv,List.length_drop]
theorem Wd.drop {a:List Int} (h:Wd a) (k:Nat):Wd (a.drop k):=fun x hx => h x (List.mem_of_mem_drop hx)
theorem zqkg {a:List Int} (hne:0 < a.length):wv a = a.getD 0 0 + 4294967296 * wv (a.drop 1):=by
 have h:=zqno a (k:=1) hne;rw [h]; simp [wvN]
theorem zqgi {a:List Int} (hd:Wd a) {k:Nat} (hk:k < a.length) (hz:∀ j,j < k → a.getD j 0 = 0) (S:Nat) (hS:a.getD k 0 = S) (h0:S ≠ 0):Halved (wv a) (k * 32 + Lib.ctz 32 S):=by
 have hS1:S < 4294967296:=by have:=(hd.getD k).2; omega
 obtain ⟨m,hm,hlt⟩:=Lib.ctzFrom_spec 32 S (by omega) hS1
 have hc:Lib.ctz 32 S = Lib.ctzFrom 32 S:=by simp [Lib.ctz,h0]
 rw [hc];generalize Lib.ctzFrom 32 S = t at *;have h1:=zqno a (k:=k) (by omega)
 have h2:=zqkg (a:=a.drop k) (by rw [List.length_drop]; omega)
 have e:(a.drop k).getD 0 0 = (S:Int):=by rw [← hS]; simp [List.getD]
 rw [e] at h2;obtain ⟨R,hR⟩:=Int.eq_ofNat_of_zero_le (zqbb ((hd.drop k).drop 1)).1;rw [hR] at h2;obtain ⟨s,hs⟩:∃ s,32 = t + s + 1:=⟨31 - t,by omega⟩
 refine .inr ⟨m + 2 ^ s * R,?_⟩;rw [h1,zqlr hz,h2,pow32,Int.pow_add,Int.mul_assoc,Int.zero_add]
 congr 1
 have e1:(4294967296:Int) = 2 ^ t * 2 ^ s * 2:=by
  rw [← Int.pow_add,← Int.pow_succ,show (t + s).succ = 32 from hs.symm]; rfl
 have e2:(S:Int) = 2 ^ t * (2 * m + 1):=by rw [hm]; simp
 have e4:((m + 2 ^ s * R:Nat):Int) = (m:Int) + 2 ^ s * (R:Int):=by simp
 rw [e2,e1,e4];simp only [Int.mul_add,Int.mul_assoc];have e5:(2:Int) ^ t * (2 * (2 ^ s * (R:Int))) = 2 ^ t * (2 ^ s * (2 * (R:Int))):=by rw [← Int.mul_assoc 2,Int.mul_comm 2 (2 ^ s),Int.mul_assoc]
 omega
set_option maxHeartbeats 1000000 in
theorem zqn4 (u:Value) (a:List Int) (w:World) (hu:WList w u a) (hT:Tab w) :
  Calls Tryz.prog 128 #[u] w (HalvedPost (wv a) w):=by
 obtain ⟨p,c,rfl⟩:=hu.shape;have HU:=zh hu;have HT:=zh hT;have lx:=hu.2.2;clear hu hT;go_enter Tryz.func128,Tryz.ntmps128;go_wp2_with fail;go_loop [6] (fun i => ∃ (k:Nat),k ≤ a.length ∧ i = .int .i64 k ∧ Hid (∀ j,j < k → a.getD j 0 = 0)) (fun i => a.length - (intOf i).toNat)
 case atStart => exact ⟨0,Nat.zero_le _,rfl,zh (fun j hj => by omega)⟩
 case round =>
  obtain ⟨k,hk,rfl,hz⟩:=hrel
  by_cases hlt:k < a.length
  ·obtain ⟨b1,o1,hp1,hb1,hc1⟩:=HU.out.1.cell (i:=k) hlt;subst hp1;have hd:=HU.out.2.1.getD k;have hN:=zh (fun (S:Nat) (hS:a.getD k 0 = S) (h0:S ≠ 0) => zqgi HU.out.2.1 hlt hz.out S hS h0)
   have hM:=zh (fun (hS:a.getD k 0 = 0) => fun j (hj:j < k + 1) => (by by_cases e:j = k; rw [e]; exact hS; exact hz.out j (by omega):a.getD j 0 = 0))
   generalize a.getD k 0 = s at *;obtain ⟨S,rfl⟩:=Int.eq_ofNat_of_zero_le hd.1;have hN2:=zh (hN.out S rfl);clear hN hz hb1
   by_cases h0:S = 0
   ·have hs0:((S:Nat):Int) = 0:=by omega
    have hM2:=zh (hM.out hs0);clear hM h0;go_wp2_with fail;go_round
    case rel => exact ⟨k + 1,by omega,by go_num,hM2⟩
    case measure => simp [intOf]; omega
   ·have hs0:¬ ((S:Nat):Int) = 0:=by omega
    have hC:=zh (zqy3 S (by omega) h0 w HT.out)
    have hR:=zh (hN2.out h0);have hlow:Lib.ctz 32 S < 32:=(Lib.lowest_bit 32 S h0 (by omega)).2
    clear hM hN2 h0;generalize Lib.ctz 32 S = t at *;go_wp2_with fail;refine (hC.out).mono ?_; rintro e w' ⟨rfl,rfl⟩;go_wp2_with fail;go_ret;exact ⟨k * 32 + t,zqar (by omega),hR.out,rfl⟩
  ·have hE:=zh (zqlr (a:=a) (k:=a.length) (fun j hj => hz.out j (by omega)))
   clear hz;go_wp2_with fail;go_ret;exact ⟨0,rfl,.inl ⟨hE.out,rfl⟩,rfl⟩
end Go.Proofs.YtafmghloohhaeaaGreatDoor
namespace Go.Proofs.YtafmghloohhaeaaGreatDoor
set_option maxRecDepth 100000
open Go.RowKit
set_option linter.unusedVariables false
theorem zq0x {l:List Int} {j:Nat} {x:Int} (h:j < l.length) (n:Nat):wvN (l.set j x) n = wvN l n + if j < n then (x - l.getD j 0) * 4294967296 ^ j else 0:=by
 induction n with
 | zero => simp [wvN]
 | succ n ih =>
  rw [wvN,wvN,ih,zqdc h]
  by_cases e:n = j
  ·subst e; simp [Int.sub_mul]; omega
  ·by_cases hl:j < n
   ·have:j < n + 1:=by omega
    simp [hl,this,e]; omega
   ·have:¬ j < n + 1:=by omega
    simp [hl,this,e]
theorem zqvw {l:List Int} {j:Nat} {x:Int} (h:j < l.length):wv (l.set j x) = wv l + (x - l.getD j 0) * 4294967296 ^ j:=by
 rw [wv,List.length_set,zq0x h,if_pos h]; rfl
def WMulOut (a b:List Int) (i:Nat) (out:List Int):Prop:=wv out = wvN a i * wv b ∧ Wd out ∧ out.length = a.length + b.length ∧ ∀ j,i + b.length ≤ j → out.getD j 0 = 0
def WMulIn (a b:List Int) (i k:Nat) (out:List Int) (c:Int):Prop :=
 wv out + c * 4294967296 ^ (i + k) = wvN a i * wv b + a.getD i 0 * wvN b k * 4294967296 ^ i ∧ Wd out ∧ out.length = a.length + b.length ∧ (∀ j,i + b.length ≤ j → out.getD j 0 = 0) ∧ 0 ≤ c ∧ c ≤ 4294967295
theorem WMulOut.enter {a b out:List Int} {i:Nat} (h:WMulOut a b i out):WMulIn a b i 0 out 0:=by
 obtain ⟨h1,h2,h3,h4⟩:=h;exact ⟨by simp [wvN,h1],h2,h3,h4,by omega,by omega⟩
theorem zqnn (n:Nat):wv (List.replicate n (0:Int)) = 0:=by
 have h:wv (List.replicate n (0:Int)) = wv []:=zqdy (fun i => by simp [List.getD,List.getElem?_replicate]; split <;> simp)
 rw [h]; rfl
theorem WMulOut.start (a b:List Int):WMulOut a b 0 (List.replicate (a.length + b.length) 0):=by
 refine ⟨by simp [wvN,zqnn],fun x hx => ?_,by simp,fun j _ => ?_⟩
 ·have:=List.eq_of_mem_replicate hx; omega
 ·simp [List.getD,List.getElem?_replicate]; split <;> simp
theorem zqhu {x y:Int} (h1:0 ≤ x) (h2:x ≤ 4294967295) (h3:0 ≤ y) (h4:y ≤ 4294967295):0 ≤ x * y ∧ x * y ≤ 18446744065119617025:=by
 refine ⟨Int.mul_nonneg h1 h3,?_⟩
 calc x * y ≤ 4294967295 * y:=Int.mul_le_mul_of_nonneg_right h2 h3
  _ ≤ 4294967295 * 4294967295:=Int.mul_le_mul_of_nonneg_left h4 (by omega)
theorem WMulIn.step {a b out:List Int} {i k:Nat} {c:Int} (h:WMulIn a b i k out c) (ha:Wd a) (hb:Wd b) (hi:i < a.length) (hk:k < b.length) (o x y:Int) (ho:out.getD (i + k) 0 = o) (hx:a.getD i 0 = x) (hy:b.getD k 0 = y) :
  WMulIn a b i (k + 1) (out.set (i + k) ((x * y + o + c) % 4294967296)) ((x * y + o + c) / 4294967296):=by
 obtain ⟨h1,h2,h3,h4,h5,h6⟩:=h;have hj:i + k < out.length:=by omega
 have o1:=h2.getD (i + k);have x1:=ha.getD i;have y1:=hb.getD k;rw [ho] at o1;rw [hx] at x1;rw [hy] at y1;have hm:=zqhu x1.1 x1.2 y1.1 y1.2;refine ⟨?_,h2.set (by omega) (by omega),by simp [h3],fun j hj2 => ?_,by omega,by omega⟩
 ·have e0:i + (k + 1) = (i + k) + 1:=by omega
  rw [zqvw hj,ho,wvN,hy,e0,zqfh,hx];rw [hx] at h1;have e1:=zqe9 (x * y + o + c) (4294967296 ^ (i + k));have e2:(x * y + o + c) * 4294967296 ^ (i + k) = x * y * 4294967296 ^ (i + k) + o * 4294967296 ^ (i + k) + c * 4294967296 ^ (i + k):=by rw [Int.add_mul,Int.add_mul]
  have e3:((x * y + o + c) % 4294967296 - o) * 4294967296 ^ (i + k) = (x * y + o + c) % 4294967296 * 4294967296 ^ (i + k) - o * 4294967296 ^ (i + k):=Int.sub_mul _ _ _;have e4:x * (wvN b k + y * 4294967296 ^ k) * 4294967296 ^ i = x * wvN b k * 4294967296 ^ i + x * y * 4294967296 ^ (i + k):=by
   rw [Int.mul_add,Int.add_mul,Int.pow_add,Int.mul_comm (4294967296 ^ i:Int) (4294967296 ^ k),← Int.mul_assoc x y (4294967296 ^ k),Int.mul_assoc (x * y)]
  omega
 ·rw [zqdc hj,if_neg (by omega)]; exact h4 j hj2
theorem WMulIn.leave {a b out:List Int} {i:Nat} {c:Int} (h:WMulIn a b i b.length out c) (hi:i < a.length):WMulOut a b (i + 1) (out.set (i + b.length) c):=by
 obtain ⟨h1,h2,h3,h4,h5,h6⟩:=h;have hj:i + b.length < out.length:=by omega
 refine ⟨?_,h2.set h5 h6,by simp [h3],fun j hj2 => ?_⟩
 ·rw [zqvw hj,h4 _ (Nat.le_refl _),wvN];have e1:(c - 0) * 4294967296 ^ (i + b.length) = c * 4294967296 ^ (i + b.length):=by simp
  have e2:(wvN a i + a.getD i 0 * 4294967296 ^ i) * wv b = wvN a i * wv b + a.getD i 0 * wvN b b.length * 4294967296 ^ i:=by
   rw [Int.add_mul,Int.mul_assoc,Int.mul_assoc,Int.mul_comm (4294967296 ^ i:Int)]; rfl
  omega
 ·rw [zqdc hj,if_neg (by omega)]; exact h4 j (by omega)
theorem WMulOut.stop {a b out:List Int} (h:WMulOut a b a.length out):wv out = wv a * wv b:=h.1
set_option maxHeartbeats 2000000 in
theorem zqxj (u v:Value) (a b:List Int) (w:World) (hu:WList w u a) (hv:WList w v b) (la:a.length ≤ 274877906944) (lb:b.length ≤ 274877906944) :
  Calls Tryz.prog 86 #[u,v] w (Fresh w (wv a * wv b) (a.length + b.length)):=by
 obtain ⟨i0,hi,hz0,hz1,hz2⟩:=info_parts Tryz.infoU32;obtain ⟨p,c,rfl⟩:=hu.shape;obtain ⟨q,d,rfl⟩:=hv.shape;have HA:=zh hu;have HB:=zh hv;clear hu hv;go_enter Tryz.func86,Tryz.ntmps86;go_wp2_with (at_make; refine wpList_make_full _ rfl _ _ 24 rfl w.heap.size 27 i0 (.int .u32 0) 1 Tryz.underlying24 hi hz0 hz1 .i64 .i64 _ _ (a.length + b.length) rfl rfl (by omega) (by omega) (by rw [hz2]; omega) (by unfold maxLen; omega) (by simp) ?_; intro w0 hown hgrow)
 have hF:=zh (zqcc rfl hown hgrow);clear hown hgrow;go_wp2_with fail;go_loopw [18] (fun i wr => ∃ (k:Nat) (out:List Int),k ≤ a.length ∧ i = .int .i64 k ∧ Hid (WMulOut a b k out) ∧ Hid (Fill w w.heap.size (a.length + b.length) out wr)) (fun i _ => a.length - (intOf i).toNat)
 case atStart => exact ⟨0,_,Nat.zero_le _,rfl,zh (WMulOut.start a b),hF⟩
 case round =>
  obtain ⟨k,out,hk,rfl,hO,hS⟩:=hrel;clear hF
  by_cases hlt:k < a.length
  ·obtain ⟨wo,rfl⟩:∃ wo:World,wo = wr:=⟨_,rfl⟩
   go_wp2_with fail;go_loopw [7,23] (fun c i wr => ∃ (j:Nat) (o2:List Int) (cr:Int),j ≤ b.length ∧ c = .int .u64 cr ∧ i = .int .i64 j ∧ Hid (WMulIn a b k j o2 cr) ∧ 0 ≤ cr ∧ cr ≤ 4294967295 ∧
     Hid (Fill w w.heap.size (a.length + b.length) o2 wr)) (fun _ i _ => b.length - (intOf i).toNat)
   case atStart => exact ⟨0,out,0,Nat.zero_le _,rfl,rfl,zh hO.out.enter,by omega,by omega,hS⟩
   case round =>
    obtain ⟨j,o2,cr,hj,rfl,rfl,hI,cr0,cr1,hT⟩:=hrel;clear hS hO;have hlen:=zh hI.out.2.2.1
    by_cases hjl:j < b.length
    ·have hkj:k + j < o2.length:=by have:=hlen.out; omega
     obtain ⟨hc1,hf1⟩:=hT.out.cells hkj;obtain ⟨pb,po,hp1,hpb,hpa⟩:=HA.out.1.cell hlt;obtain ⟨qb,qo,hq1,hqb,hqa⟩:=HB.out.1.cell hjl;subst hp1 hq1;have hpa:=cell_later hT.out.2 hpa;have hqa:=cell_later hT.out.2 hqa;have ox:=hI.out.2.1.getD (k + j);have ax:=HA.out.2.1.getD k;have bx:=HB.out.2.1.getD j;have hst:=zh (fun (o x y:Int) (ho:o2.getD (k + j) 0 = o) (hx:a.getD k 0 = x) (hy:b.getD j 0 = y) => hI.out.step HA.out.2.1 HB.out.2.1 hlt hjl o x y ho hx hy)
     generalize o2.getD (k + j) 0 = o at *;generalize a.getD k 0 = x at *;generalize b.getD j 0 = y at *;have hst2:=zh (hst.out o x y rfl rfl rfl);have hTT:=zh (fun (n:Nat) (z:Int) => (hT.out.drewN n).set (k + j) z)
     obtain ⟨o1,o9⟩:=ox;obtain ⟨m1,m2⟩:=zqhu ax.1 ax.2 bx.1 bx.2;obtain ⟨x1,x2⟩:=ax;obtain ⟨y1,y2⟩:=bx;clear hst hI hT hpb hqb hkj;have hB1:(0:Int) ≤ (k:Int):=by omega
     have hB2:(k:Int) < (a.length:Int):=by omega
     have hB3:(0:Int) ≤ (j:Int):=by omega
     have hB4:(j:Int) < (b.length:Int):=by omega
     have hB5:(0:Int) ≤ (k:Int) + (j:Int):=by omega
     have hB6:(k:Int) + (j:Int) < (a.length:Int) + (b.length:Int):=by omega
     have e1:IntKind.i64.wrap ((k:Int) + (j:Int)) = (k:Int) + (j:Int):=IntWalk.i64_in _ (by omega)
     have e5:((k:Int) + (j:Int)).toNat = k + j:=by omega
     have e6:IntKind.u64.wrap x = x:=by rw [IntKind.wrap_u64]; omega
     have e7:IntKind.u64.wrap y = y:=by rw [IntKind.wrap_u64]; omega
     have e8:IntKind.u64.wrap o = o:=by rw [IntKind.wrap_u64]; omega
     have e2:IntKind.u64.wrap (x * y) = x * y:=by rw [IntKind.wrap_u64]; omega
     have e3:IntKind.u64.wrap (x * y + o) = x * y + o:=by rw [IntKind.wrap_u64]; omega
     have e4:IntKind.u64.wrap (x * y + o + cr) = x * y + o + cr:=by rw [IntKind.wrap_u64]; omega
     go_wp2_with fail;go_quiet (fail);have hs0:0 ≤ x * y + o + cr:=by omega
     have hs1:x * y + o + cr ≤ 18446744073709551615:=by omega
     clear e1 e2 e3 e4 e5 e6 e7 e8 hB5 hB6 m1 m2 o1 o9;generalize x * y + o + cr = t at *;go_wp2_with fail;go_roundw
     case rel => exact ⟨j + 1,_,t / 4294967296,by omega,rfl,by go_num,hst2,by omega,by omega,zh (hTT.out nq (t % 4294967296))⟩
     case measure => simp [intOf]; omega
    ·obtain rfl:j = b.length:=by omega
     have hO2:=zh (hI.out.leave hlt);have hkj:k + b.length < o2.length:=by have:=hlen.out; omega
     obtain ⟨hc1,hf1⟩:=hT.out.cells hkj;have hT2:=zh (hT.out.set (k + b.length) cr);clear hI hT;go_wp2_with fail;go_roundw
     case rel => exact ⟨k + 1,_,by omega,by go_num,hO2,hT2⟩
     case measure => simp [intOf]; omega
  ·obtain rfl:k = a.length:=by omega
   have hlen:=hO.out.2.2.1;have hW:=zh (hS.out.1.wlist hO.out.2.1 (by omega))
   have HS:=zh (zqbv _ _ _ _ _ hW.out.1 (by omega))
   rw [hlen] at HS;have HL:=zh hlen;clear hlen hW;go_wp2_with fail;refine (HS.out).mono ?_; rintro e w' ⟨u1,n,rfl,hc,rfl⟩;go_wp2_with fail;go_ret;exact zqeb hS.out hO.out.2.1 (by have:=HL.out; omega) hO.out.stop (by have:=HL.out; omega) hc
set_option maxRecDepth 100000
open Go.RowKit
set_option linter.unusedVariables false
def RaiseRel (a:List Int) (W R i:Nat) (out:List Int):Prop :=
 wvN out (i + W + 1) = wvN a i * (2 ^ R * 4294967296 ^ W) ∧ Wd out ∧ out.length = a.length + W + 1 ∧ (∀ j,i + W + 1 ≤ j → out.getD j 0 = 0) ∧ out.getD (i + W) 0 < 2 ^ R
theorem RaiseRel.start (a:List Int) (W R:Nat):RaiseRel a W R 0 (List.replicate (a.length + W + 1) 0):=by
 have hz:∀ j,(List.replicate (a.length + W + 1) (0:Int)).getD j 0 = 0:=fun j => by simp [List.getD,List.getElem?_replicate]; split <;> simp
 refine ⟨?_,Wd.zeros _,by simp,fun j _ => hz j,?_⟩
 ·have:=zqg7 (a:=List.replicate (a.length + W + 1) (0:Int)) (b:=[]) (n:=0 + W + 1) (fun i _ => by rw [hz]; rfl)
  rw [this];have e:∀ n,wvN [] n = 0:=fun n => by
   induction n with
   | zero => rfl
   | succ n ih => rw [wvN,ih]; simp
  rw [e]; simp [wvN]
 ·rw [hz]; exact Int.pow_pos (by decide)
theorem zqu9 (x:Int) (R:Nat) (hR:R < 32) (x0:0 ≤ x) (x1:x ≤ 4294967295) :
  ∃ m h:Nat,IntKind.u64.wrap (x * 2 ^ R) % 4294967296 = ((2 ^ R * m:Nat):Int) ∧ IntKind.u64.wrap (x * 2 ^ R) / 4294967296 % 4294967296 = (h:Int) ∧ h < 2 ^ R ∧ 2 ^ R * m + 2 ^ R ≤ 4294967296 ∧ x * 2 ^ R = ((2 ^ R * m:Nat):Int) + 4294967296 * (h:Int):=by
 obtain ⟨X,rfl⟩:=Int.eq_ofNat_of_zero_le x0;obtain ⟨S,hS⟩:∃ S,32 = R + S:=⟨32 - R,by omega⟩
 have hQ:4294967296 = 2 ^ R * 2 ^ S:=by rw [← Nat.pow_add,← hS]
 have hP:0 < 2 ^ R:=Nat.two_pow_pos R;have hP':0 < 2 ^ S:=Nat.two_pow_pos S;have e:X = 2 ^ S * (X / 2 ^ S) + X % 2 ^ S:=(Nat.div_add_mod X (2 ^ S)).symm;have hm:X % 2 ^ S < 2 ^ S:=Nat.mod_lt _ hP';have hh:X / 2 ^ S < 2 ^ R:=by
  refine Nat.div_lt_of_lt_mul ?_;rw [Nat.mul_comm,← hQ]; omega
 have hx:X * 2 ^ R = 2 ^ R * (X % 2 ^ S) + 4294967296 * (X / 2 ^ S):=by
  conv => lhs; rw [e]
  rw [Nat.add_mul,hQ,Nat.mul_comm (X % 2 ^ S),Nat.add_comm,Nat.mul_comm (2 ^ S) (X / 2 ^ S),Nat.mul_assoc,Nat.mul_comm (2 ^ S) (2 ^ R),Nat.mul_comm (X / 2 ^ S)]
 have h1:2 ^ R * (X % 2 ^ S) + 2 ^ R ≤ 4294967296:=by
  have:2 ^ R * (X % 2 ^ S + 1) ≤ 2 ^ R * 2 ^ S:=Nat.mul_le_mul_left _ hm;rw [Nat.mul_add,← hQ] at this; omega
 have hr:2 ^ R ≤ 2 ^ 31:=Nat.pow_le_pow_right (by omega) (by omega)
 refine ⟨X % 2 ^ S,X / 2 ^ S,?_,?_,hh,h1,?_⟩
 all_goals
  have hc:(X:Int) * 2 ^ R = ((X * 2 ^ R:Nat):Int):=by simp
  rw [hc,hx]
 ·rw [IntKind.wrap_u64]; omega
 ·rw [IntKind.wrap_u64]; omega
 ·omega
theorem RaiseRel.step {a out:List Int} {W R i:Nat} (ha:Wd a) (h:RaiseRel a W R i out) (hi:i < a.length) (hR:R < 32) (x o:Int) (hx:a.getD i 0 = x) (ho:out.getD (i + W) 0 = o) :
  RaiseRel a W R (i + 1) ((out.set (i + W) (bits BinOp.or IntKind.u32 o (IntKind.u64.wrap (x * 2 ^ R) % 4294967296))).set (i + W + 1) (IntKind.u64.wrap (x * 2 ^ R) / 4294967296 % 4294967296)):=by
 obtain ⟨h1,h2,h3,h4,h5⟩:=h;have hxr:=ha.getD i;have hor:=h2.getD (i + W);rw [hx] at hxr;rw [ho] at hor h5;obtain ⟨m,hi',e1,e2,e3,e4,e5⟩:=zqu9 x R hR hxr.1 hxr.2;obtain ⟨O,rfl⟩:=Int.eq_ofNat_of_zero_le hor.1;have hO:O < 2 ^ R:=by
  have:((2 ^ R:Nat):Int) = (2:Int) ^ R:=by simp
  omega
 have hr:2 ^ R ≤ 2 ^ 31:=Nat.pow_le_pow_right (by omega) (by omega)
 rw [e1,e2,zqt6 m O R hO (by omega)]
 have hL:i + W < out.length:=by omega
 refine ⟨?_,(h2.set (by omega) (by omega)).set (by omega) (by omega),by simp; omega,fun j hj => ?_,?_⟩
 ·rw [show i + 1 + W + 1 = (i + W + 1) + 1 from by omega,zqcd (by simp; omega),zqcd hL]
  rw [wvN,ho] at h1;rw [wvN,hx,zqfh,Int.add_mul,← h1];have k1:x * 4294967296 ^ i * (2 ^ R * 4294967296 ^ W) = x * 2 ^ R * 4294967296 ^ (i + W):=by
   rw [Int.pow_add,Int.mul_assoc,Int.mul_assoc,← Int.mul_assoc (4294967296 ^ i:Int),Int.mul_comm (4294967296 ^ i:Int) (2 ^ R),Int.mul_assoc]
  rw [k1,e5];have k2:((2 ^ R * m + O:Nat):Int) * 4294967296 ^ (i + W) = ((2 ^ R * m:Nat):Int) * 4294967296 ^ (i + W) + (O:Int) * 4294967296 ^ (i + W):=by rw [Int.natCast_add,Int.add_mul]
  have k3:(((2 ^ R * m:Nat):Int) + 4294967296 * (hi':Int)) * 4294967296 ^ (i + W) = ((2 ^ R * m:Nat):Int) * 4294967296 ^ (i + W) + (hi':Int) * (4294967296 ^ (i + W) * 4294967296):=by
   rw [Int.add_mul,Int.mul_comm 4294967296 (hi':Int),Int.mul_assoc,Int.mul_comm (4294967296:Int) (4294967296 ^ (i + W))]
  omega
 ·rw [zqdd (by omega),zqdd (by omega)]; exact h4 j (by omega)
 ·rw [show i + 1 + W = i + W + 1 from by omega,zqf3 (by simp; omega)]
  have:((2 ^ R:Nat):Int) = (2:Int) ^ R:=by simp
  omega
theorem RaiseRel.stop {a out:List Int} {W R:Nat} (h:RaiseRel a W R a.length out):wv out = wv a * (2 ^ R * 4294967296 ^ W) ∧ Wd out ∧ out.length = a.length + W + 1:=by
 obtain ⟨h1,h2,h3,h4,h5⟩:=h;refine ⟨?_,h2,h3⟩;rw [← zqcr out (n:=a.length + W + 1) (by omega),h1]; rfl
def Raised (w:World) (z:Int) (L:Nat) (e:Ending) (w':World):Prop :=
 ∃ out,e = .returned (.slice (some ⟨w.heap.size,0,none⟩) L L) ∧ Fill w w.heap.size L out w' ∧ Wd out ∧ out.length = L ∧ wv out = z
set_option maxHeartbeats 2000000 in
theorem zqun (u:Value) (a:List Int) (w:World) (hu:WList w u a) (la:a.length ≤ 274877906944) (n W R:Nat) (hn:n = 32 * W + R) (hR:R < 32) (hW:W ≤ 1000000) :
  Calls Tryz.prog 172 #[u,.int .i64 n] w (Raised w (wv a * (2 ^ R * 4294967296 ^ W)) (a.length + W + 1)):=by
 obtain ⟨i0,hi,hz0,hz1,hz2⟩:=info_parts Tryz.infoU32;obtain ⟨p,c,rfl⟩:=hu.shape;have HA:=zh hu;clear hu;have hq:(n:Int) / 32 = (W:Int):=by omega
 have hr:(n:Int) % 32 = (R:Int):=by omega
 have hn0:n ≤ 40000000:=by omega
 clear hn;go_enter Tryz.func172,Tryz.ntmps172;go_wp2_with (at_make; refine wpList_make_full _ rfl _ _ 24 rfl w.heap.size 27 i0 (.int .u32 0) 1 Tryz.underlying24 hi hz0 hz1 .i64 .i64 _ _ (a.length + W + 1) rfl rfl (by omega) (by omega) (by rw [hz2]; omega) (by unfold maxLen; omega) (by simp) ?_; intro w0 hown hgrow)
 have hF:=zh (zqcc rfl hown hgrow);clear hown hgrow;go_wp2_with fail;go_loopw [22] (fun i wr => ∃ (k:Nat) (out:List Int),k ≤ a.length ∧ i = .int .i64 k ∧ Hid (RaiseRel a W R k out) ∧ Hid (Fill w w.heap.size (a.length + W + 1) out wr)) (fun i _ => a.length - (intOf i).toNat)
 case atStart => exact ⟨0,_,Nat.zero_le _,rfl,zh (RaiseRel.start a W R),hF⟩
 case round =>
  obtain ⟨k,out,hk,rfl,hO,hS⟩:=hrel;clear hF;have hlen:=zh hO.out.2.2.1;clear hq hr
  by_cases hlt:k < a.length
  ·obtain ⟨ho1,ho2⟩:=hS.out.cells (j:=k + W) (by have:=hlen.out; omega)
   obtain ⟨hh1,hh2⟩:=hS.out.cells (j:=k + W + 1) (by have:=hlen.out; omega)
   obtain ⟨pb,po,hp1,hpb,hpa⟩:=HA.out.1.cell hlt;subst hp1;have hpa:=cell_later hS.out.2 hpa;have ox:=hO.out.2.1.getD (k + W);have ax:=HA.out.2.1.getD k;have hst:=zh (fun (x o:Int) (hx:a.getD k 0 = x) (ho:out.getD (k + W) 0 = o) => hO.out.step HA.out.2.1 hlt hR x o hx ho)
   generalize a.getD k 0 = x at *;generalize out.getD (k + W) 0 = o at *;have hst2:=zh (hst.out x o rfl rfl);have hSS:=zh (fun (y z:Int) => (hS.out.set (k + W) y).set (k + W + 1) z)
   clear hst hO hS hpb;obtain ⟨x1,x2⟩:=ax;obtain ⟨o1,o9⟩:=ox;have hB5:(0:Int) ≤ (k:Int) + (W:Int):=by omega
   have hB6:(k:Int) + (W:Int) < (a.length:Int) + (W:Int) + 1:=by omega
   have e5:((k:Int) + (W:Int)).toNat = k + W:=by omega
   have e6:((k:Int) + (W:Int) + 1).toNat = k + W + 1:=by omega
   go_wp2_with fail;go_roundw
   case rel => exact ⟨k + 1,_,by omega,by go_num,hst2,zh (hSS.out _ _)⟩
   case measure => simp [intOf]; omega
  ·obtain rfl:k = a.length:=by omega
   have hE:=zh hO.out.stop;clear hO;go_wp2_with fail;go_ret;exact ⟨out,rfl,hS.out,hE.out.2.1,hE.out.2.2,hE.out.1⟩
set_option maxRecDepth 100000
open Go.RowKit
set_option linter.unusedVariables false
set_option maxHeartbeats 1000000 in
theorem zq0k (u:Value) (a:List Int) (w:World) (hu:WList w u a) (la:a.length ≤ 274877906944) (n:Nat) (hn:n ≤ 8192) :
  Calls Tryz.prog 156 #[u,.int .i64 n] w (FreshOk w (wv a * 2 ^ n) (a.length + n / 32 + 1)):=by
 have hz:wv a * (2 ^ (n % 32) * 4294967296 ^ (n / 32)) = wv a * 2 ^ n:=by
  rw [pow32,← Int.pow_add]; congr 2; omega
 have HR:=zh (zqun u a w hu la n (n / 32) (n % 32) (by omega) (by omega) (by omega))
 rw [hz] at HR;have hd:n / 32 ≤ 1000:=by omega
 generalize n / 32 = W at *;have h1:¬ (n:Int) < 0:=by omega
 have h2:¬ 8192 < (n:Int):=by omega
 clear hz hu;go_enter Tryz.func156,Tryz.ntmps156;go_wp2_with fail;refine (HR.out).mono ?_; rintro e w1 ⟨out,rfl,hF,hd1,hl,hv⟩;have hW:=zh (hF.1.wlist hd1 (by omega))
 have HS:=zh (zqbv _ _ _ _ _ hW.out.1 (by omega))
 rw [hl] at HS;have HF:=zh hF;have HD:=zh hd1;have HL:=zh hl;have HV:=zh hv;clear hF hd1 hl hv hW;go_wp2_with fail;refine (HS.out).mono ?_; rintro e w' ⟨u1,m,rfl,hc,rfl⟩;rw [← HL.out] at hc;go_wp2_with fail;go_ret2;exact ⟨_,rfl,zqeb HF.out HD.out (by have:=HL.out; omega) HV.out (by have:=HL.out; omega) (by rw [HL.out] at hc; exact hc)⟩
end Go.Proofs.YtafmghloohhaeaaGreatDoor
namespace Go.Proofs.YtafmghloohhaeaaGreatDoor
set_option maxRecDepth 100000
open Go.RowKit
set_option linter.unusedVariables false
set_option maxRecDepth 100000
open Go.RowKit
set_option linter.unusedVariables false
theorem IsNat.own {w:World} {B:Nat} {v:Value} {a:List Int} (h:w.ownsRow B 27 1 v a.length (a.map (Value.int .u32))) (hd:Wd a) (ht:Tidy a) (hl:a.length ≤ 1099511627776):IsNat w v (wv a):=⟨a,zqbg h hd hl,ht,rfl⟩
set_option maxRecDepth 100000
open Go.RowKit
set_option linter.unusedVariables false
theorem zqoi {z:Int} (h0:0 < z):z < 2 ^ bitsZ z:=by
 obtain ⟨Z,rfl⟩:=Int.eq_ofNat_of_zero_le (Int.le_of_lt h0);have hz:(Z:Int) ≠ 0:=by omega
 rw [bitsZ,if_neg hz,Int.toNat_natCast];have:=Nat.lt_log2_self (n:=Z);have e:((2 ^ (Nat.log2 Z + 1):Nat):Int) = (2:Int) ^ (Nat.log2 Z + 1):=by simp
 omega
theorem zqy9 {z:Int} (h0:0 < z):2 ^ (bitsZ z - 1) ≤ z:=by
 obtain ⟨Z,rfl⟩:=Int.eq_ofNat_of_zero_le (Int.le_of_lt h0);have hz:(Z:Int) ≠ 0:=by omega
 rw [bitsZ,if_neg hz,Int.toNat_natCast,Nat.add_sub_cancel];have:=Nat.log2_self_le (n:=Z) (by omega)
 have e:((2 ^ Nat.log2 Z:Nat):Int) = (2:Int) ^ Nat.log2 Z:=by simp
 omega
theorem zqlb {m n:Nat} (h:m ≤ n):(2:Int) ^ m ≤ 2 ^ n:=by
 have:=Nat.pow_le_pow_right (n:=2) (by decide) h
 have e1:((2 ^ m:Nat):Int) = (2:Int) ^ m:=by simp
 have e2:((2 ^ n:Nat):Int) = (2:Int) ^ n:=by simp
 omega
theorem zqr9 {z:Int} (h0:0 < z):0 < bitsZ z:=by
 rw [bitsZ,if_neg (by omega)]; omega
end Go.Proofs.YtafmghloohhaeaaGreatDoor
namespace Go.Proofs.YtafmghloohhaeaaGreatDoor
set_option maxRecDepth 100000
open Go.RowKit
set_option linter.unusedVariables false
set_option maxRecDepth 100000
open Go.RowKit
set_option linter.unusedVariables false
set_option maxRecDepth 100000
open Go.RowKit
set_option linter.unusedVariables false
set_option maxRecDepth 100000
open Go.RowKit
set_option linter.unusedVariables false
def v10:List Int → Int
 | [] => 0
 | d :: t => d + 10 * v10 t
end Go.Proofs.YtafmghloohhaeaaGreatDoor
namespace Go.Proofs.YtafmghloohhaeaaGreatDoor
set_option maxRecDepth 100000
open Go.RowKit
theorem Kept.down {w w1 w2:World} {R:Nat} {T:TypeId} (h:Kept w1 R T w2) (hb:Below w.heap.size w w1):Kept w R T w2:=by
 obtain ⟨h1,h2,h3⟩:=h;exact ⟨hb.trans (h1.mono hb.size),by have:=hb.size; omega,h3⟩
end Go.Proofs.YtafmghloohhaeaaGreatDoor
