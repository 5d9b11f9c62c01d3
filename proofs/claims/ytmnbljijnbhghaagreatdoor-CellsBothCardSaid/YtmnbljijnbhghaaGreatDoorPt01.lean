/- Contracts that the law leans on: Regz. -/
import Derived.Deep.RegionHeld
namespace Go.Proofs.YtmnbljijnbhghaaGreatDoor
open Go
section
variable {P : Program} {ops : Array Oper} {Q : Exit → Act → World → Prop} {md : Region.Mode} {S : World → Prop} {z : Nat}
def closedL (md:Region.Mode) (ops:Array Oper) (listed:Array Bool):Prop :=
 ∀ j o,ops[j]? = some o → listed.getD j false = true → ∀ e ∈ o.after,Region.binds md e = true → listed.getD e.on false = true
def awaits (md:Region.Mode) (ops:Array Oper):Nat → Nat → Nat → Bool
 | 0,_,_ => false
 | n + 1,j,i => match ops[j]? with
  | some o => o.after.any fun e => Region.binds md e && (e.on == i || awaits md ops n e.on i)
  | none => false
theorem zqf3 {listed:Array Bool} (hc:closedL md ops listed) {i:Nat}:∀ n j,awaits md ops n j i = true → (∀ o,ops[j]? = some o → ∀ e ∈ o.after,Region.binds md e = true → listed.getD e.on false = true) → listed.getD i false = true
 | 0,j,h,_ => by cases h
 | n + 1,j,h,hd => by
  unfold awaits at h;cases ho:ops[j]? with
  | none => rw [ho] at h; cases h
  | some o =>
   rw [ho] at h;simp only [Array.any_eq_true'] at h;obtain ⟨e,he,h2⟩:=h;simp only [Bool.and_eq_true,Bool.or_eq_true,beq_iff_eq] at h2;have hl:=hd o ho e he h2.1;rcases h2.2 with h3 | h3
   ·rw [← h3]; exact hl
   ·exact zqf3 hc n e.on h3 fun o' ho' e' he' hb' => hc e.on o' ho' hl e' he' hb'
theorem zqdn {listed:Array Bool} {j:Nat} (hc:closedL md ops listed) (hj:j ∈ Region.ready md ops listed):closedL md ops (listed.setIfInBounds j true):=by
 intro k o ho hl e he hb
 by_cases hk:j = k
 ·subst hk;obtain ⟨-,o',ho',hall⟩:=mem_ready.1 hj;rw [ho] at ho';cases ho'
  exact getD_set_true (hall e he hb)
 ·rw [getD_set_ne false hk] at hl;exact getD_set_true (hc k o ho hl e he hb)
theorem zqoh (n:Nat):closedL md ops (Array.replicate n false):=by
 intro j o _ hl;have h0:(Array.replicate n false).getD j false = false:=by
  by_cases h:j < n <;> simp [Array.getD,h]
 rw [h0] at hl;cases hl
def wpAnyZ (P:Program) (md:Region.Mode) (ops:Array Oper) (Q:Exit → Act → World → Prop) (S:World → Prop) (z:Nat):Nat → Array Bool → Act → World → Prop
 | 0,listed,a,w => Region.ready md ops listed = [] ∧ Q .normal a w
 | fuel + 1,listed,a,w => (Region.ready md ops listed = [] → Q .normal a w) ∧
  ∀ i ∈ Region.ready md ops listed,wpOp P ops Q i (fun a' w' => (i ≠ z → S w') ∧ wpAnyZ P md ops Q S z fuel (listed.setIfInBounds i true) a' w') a w
theorem zqj8:∀ (fuel:Nat) (listed:Array Bool) (a:Act) (w:World),wpAnyZ P md ops Q S z fuel listed a w → wpAny P md ops Q fuel listed a w
 | 0,_,_,_,h => h
 | fuel + 1,_,_,_,h => ⟨h.1,fun i hi => wpOp_mono (fun a' w' h' => zqj8 fuel _ a' w' h'.2) (h.2 i hi)⟩
theorem zqn3 {n i:Nat} {oi:Oper} {v:Value} (hi:ops[i]? = some oi) (hsel:∀ (j:Nat) (o:Oper) cs b,ops[j]? = some o → o.op ≠ .select cs b)
  (hQ:∀ c a w,Q (.panic c) (a.put oi.dst v) w → Q (.panic c) a w) (hz:awaits md ops n z i = true) :
  ∀ (fuel:Nat) (listed:Array Bool) (a:Act) (w:World),closedL md ops listed →
   (∀ j oj,ops[j]? = some oj → j ≠ i → listed.getD j true = false → (∀ e ∈ oj.after,Region.binds md e = true → e.on ≠ i) → oi.apart ops oj = true) →
   i ∈ Region.ready md ops listed → YieldsIf P ops S oi v a → S w →
   wpAnyZ P md ops Q S z fuel (listed.setIfInBounds i true) (a.put oi.dst v) w → wpAnyZ P md ops Q S z (fuel + 1) listed a w:=by
 intro fuel
 induction fuel with
 | zero =>
  intro listed a w _ _ hr hy hS H;refine ⟨fun h => (by rw [h] at hr; cases hr),fun j hj => ?_⟩
  by_cases hji:j = i
  ·subst hji; exact hy.wpOp hi hS ⟨fun _ => hS,H⟩
  ·have:=ready_mono hj hji;rw [H.1] at this;cases this
 | succ fuel ih =>
  intro listed a w hcl hfree hr hy hS H;refine ⟨fun h => (by rw [h] at hr; cases hr),fun j hj => ?_⟩
  by_cases hji:j = i
  ·subst hji; exact hy.wpOp hi hS ⟨fun _ => hS,H⟩
  ·have hiun:=(mem_ready.1 hr).1;have clash:listed.getD i false = true → False:=fun h1 => by
    rcases Nat.lt_or_ge i listed.size with h' | h'
    ·simp [h'] at hiun h1; rw [hiun] at h1; cases h1
    ·simp [Array.getElem?_eq_none h'] at h1
   have h1:=H.2 j (ready_mono hj hji);obtain ⟨hjun,oj,hoj,hall⟩:=mem_ready.1 hj;have hjz:j ≠ z:=fun e => by
    subst e;exact clash (zqf3 hcl n j hz fun o ho e he hb => by rw [hoj] at ho; cases ho; exact hall e he hb)
   have hnot:∀ e ∈ oj.after,Region.binds md e = true → e.on ≠ i:=fun e he hb heq => clash (by rw [← heq]; exact hall e he hb)
   have h2:=wpOp_putIf hoj (hfree j oj hoj hji hjun hnot) (fun cs b => hsel i oi cs b hi) (fun cs b => hsel j oj cs b hoj) hQ hy h1
   have hfree':∀ k ok,ops[k]? = some ok → k ≠ i → (listed.setIfInBounds j true).getD k true = false →
     (∀ e ∈ ok.after,Region.binds md e = true → e.on ≠ i) → oi.apart ops ok = true:=fun k ok hk hki hun hno => by
    refine hfree k ok hk hki ?_ hno
    by_cases hjk:j = k
    ·subst hjk; exact hjun
    ·rw [getD_set_ne true hjk] at hun; exact hun
   refine wpOp_mono (fun a' w' h3 => ⟨h3.2.1,ih (listed.setIfInBounds j true) a' w' (zqdn hcl hj) hfree' (ready_mono hr (Ne.symm hji)) h3.1 (h3.2.1 hjz) ?_⟩) h2
   rw [Array.setIfInBounds_comm _ _ hji];exact h3.2.2
def wpZ (P:Program) (md:Region.Mode) (ops:Array Oper) (Q:Exit → Act → World → Prop) (S:World → Prop) (z:Nat) (fuel:Nat) (listed:Array Bool) (a:Act) (w:World):Prop :=
 closedL md ops listed → wpAnyZ P md ops Q S z fuel listed a w
theorem zqn4 {i:Nat} {oi:Oper} {v:Value} {fuel:Nat} {listed:Array Bool} {a:Act} {w:World} (hi:ops[i]? = some oi)
  (hs:Region.noSelect ops = true) (hf:Region.free md ops listed i = true) (hr:(Region.ready md ops listed).contains i = true) (hz:awaits md ops ops.size z i = true)
  (hQ:∀ c a w,Q (.panic c) (a.put oi.dst v) w → Q (.panic c) a w) (hy:YieldsIf P ops S oi v a) (hS:S w)
  (h:wpZ P md ops Q S z fuel (listed.setIfInBounds i true) (a.put oi.dst v) w):wpZ P md ops Q S z (fuel + 1) listed a w:=fun hcl =>
 have hr':i ∈ Region.ready md ops listed:=by simpa using hr
 zqn3 hi (Region.noSelect_spec hs) hQ hz fuel listed a w hcl (Region.free_spec hi hf) hr' hy hS (h (zqdn hcl hr'))
theorem zqbi {i:Nat} {o:Oper} {fuel:Nat} {listed:Array Bool} {a:Act} {w:World} (hr:Region.ready md ops listed = [i]) (ho:ops[i]? = some o)
  (h:∀ K':Act → World → Prop,Shut (∀ a w,S w → wpZ P md ops Q S z fuel (listed.setIfInBounds i true) a w → K' a w) → if Region.wanted o (yielded ops a.tmps) = true then Oper.wp P o a w K' Q else K' (a.put o.dst undef) w) :
  wpZ P md ops Q S z (fuel + 1) listed a w:=by
 intro hcl;refine ⟨fun h0 => (by rw [hr] at h0; cases h0),fun j hj => ?_⟩
 have hji:j = i:=by rw [hr] at hj; simpa using hj
 subst hji;exact wpOp_step ho fun K' hK => h K' fun a w hS hW => hK a w ⟨fun _ => hS,hW (zqdn hcl hj)⟩
theorem zqit {o:Oper} {fuel:Nat} {listed:Array Bool} {a:Act} {w:World} (hr:Region.ready md ops listed = [z]) (ho:ops[z]? = some o)
  (h:∀ K':Act → World → Prop,Shut (∀ a w,wpZ P md ops Q S z fuel (listed.setIfInBounds z true) a w → K' a w) → if Region.wanted o (yielded ops a.tmps) = true then Oper.wp P o a w K' Q else K' (a.put o.dst undef) w) :
  wpZ P md ops Q S z (fuel + 1) listed a w:=by
 intro hcl;refine ⟨fun h0 => (by rw [hr] at h0; cases h0),fun j hj => ?_⟩
 have hji:j = z:=by rw [hr] at hj; simpa using hj
 subst hji;exact wpOp_step ho fun K' hK => h K' fun a w hW => hK a w ⟨fun e => absurd rfl e,hW (zqdn hcl hj)⟩
theorem zqis {listed:Array Bool} {a:Act} {w:World} (hr:Region.ready md ops listed = []) (h:Q .normal a w):∀ fuel,wpZ P md ops Q S z fuel listed a w
 | 0 => fun _ => ⟨hr,h⟩
 | _ + 1 => fun _ => ⟨fun _ => h,by rw [hr]; simp⟩
theorem zqfa {id:Nat} {a:Act} {w:World} (z:Nat) (hm:P.follows .mixedOrders = true) (hS:S w.drew)
  (h:S w.drew → wpZ P .any ops Q S z ops.size (Array.replicate ops.size false) a w.drew):(Code.region id ops true).wp P Q a w :=
 wp_region_any hm (zqj8 _ _ _ _ (h hS (zqoh _)))
end
end Go.Proofs.YtmnbljijnbhghaaGreatDoor
