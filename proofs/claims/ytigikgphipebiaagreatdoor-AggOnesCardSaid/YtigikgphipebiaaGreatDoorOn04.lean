/- Contracts that the law leans on, pruned and merged: Divm Natb. -/
import Derived.Deep.RegionLawGrows
import Derived.WalkKit
import Derived.WalkSpells
import Derived.WalkLawsBesides
import Derived.WalkSmall
import Derived.Deep.QuietTactic
import Derived.BigQuiet
import Derived.Lib.Hide
import Derived.OwnWalk
import Derived.Test.YtigikgphipebiaaGreatDoorProg
import Derived.Test.YtigikgphipebiaaGreatDoorOn01
import Derived.Test.YtigikgphipebiaaGreatDoorOn02
import Derived.Test.YtigikgphipebiaaGreatDoorOn03
/- Plain facts on long division of digits of base 1000; and an append of a list that is read elsewhere. -/
namespace Go.Proofs.YtigikgphipebiaaGreatDoor
set_option maxRecDepth 100000
open Go.RowKit
theorem Dig.cons {l : List Int} (h : Dig l) {y : Int} (h1 : 0 ≤ y) (h2 : y ≤ 999) : Dig (y :: l) := by
  intro x hx
  rcases List.mem_cons.1 hx with rfl | hx
  · exact ⟨h1, h2⟩
  · exact h x hx
/-- Long division: the digits from i on are done. -/
def DivRel (a q : List Int) (B : Int) (i : Nat) (r : Int) : Prop :=
  ∃ X Q : Int, val a = valN a i + 1000 ^ i * X ∧ val q = 1000 ^ i * Q ∧ X = Q * B + r ∧ 0 ≤ r ∧ r < B ∧ Dig q ∧ q.length = a.length ∧ (∀ j, j < i → q.getD j 0 = 0) ∧ 0 ≤ Q
theorem DivRel.start (a : List Int) {B : Int} (hB : 0 < B) : DivRel a (List.replicate a.length 0) B a.length 0 := by
  refine ⟨0, 0, by simp [val], by rw [val_replicate]; simp, by simp, by omega, hB, fun x hx => ?_, by simp, fun j _ => ?_, by omega⟩
  · have := List.eq_of_mem_replicate hx; omega
  · simp [List.getD, List.getElem?_replicate]; split <;> simp
theorem DivRel.step {a q : List Int} {B r : Int} {m : Nat} (h : DivRel a q B (m + 1) r) (hm : m < a.length) (y t : Int) (hy : a.getD m 0 = y) (t0 : 0 ≤ t) (t1 : t ≤ 999) (h1 : t * B ≤ r * 1000 + y) (h2 : r * 1000 + y < (t + 1) * B) :
    DivRel a (q.set m t) B m (r * 1000 + y - t * B) := by
  obtain ⟨X, Q, e1, e2, e3, e4, e5, e6, e7, e8, e9⟩ := h
  have hl : m < q.length := by omega
  rw [Int.add_mul] at h2
  refine ⟨X * 1000 + y, Q * 1000 + t, ?_, ?_, ?_, by omega, by omega, e6.set t0 t1, by simp [e7], fun j hj => ?_, by omega⟩
  · rw [valN, p_succ, hy] at e1
    have q1 : 1000 ^ m * 1000 * X = 1000 ^ m * (X * 1000) := by rw [Int.mul_assoc, Int.mul_comm 1000 X]
    have q2 : 1000 ^ m * (X * 1000 + y) = 1000 ^ m * (X * 1000) + 1000 ^ m * y := Int.mul_add _ _ _
    have q3 : y * 1000 ^ m = 1000 ^ m * y := Int.mul_comm _ _
    omega
  · rw [val_set hl, e8 m (by omega), e2, p_succ]
    have q1 : 1000 ^ m * 1000 * Q = 1000 ^ m * (Q * 1000) := by rw [Int.mul_assoc, Int.mul_comm 1000 Q]
    have q2 : 1000 ^ m * (Q * 1000 + t) = 1000 ^ m * (Q * 1000) + 1000 ^ m * t := Int.mul_add _ _ _
    have q3 : (t - 0) * 1000 ^ m = 1000 ^ m * t := by rw [Int.sub_zero, Int.mul_comm]
    omega
  · have q1 : (Q * 1000 + t) * B = Q * B * 1000 + t * B := by rw [Int.add_mul, Int.mul_assoc, Int.mul_comm 1000 B, ← Int.mul_assoc]
    rw [q1, e3]; omega
  · rw [getD_set hl, if_neg (by omega)]; exact e8 j (by omega)
theorem set_zero {q : List Int} {m : Nat} (h : q.getD m 0 = 0) : q.set m 0 = q := by
  apply List.ext_getElem?
  intro i
  rw [List.getElem?_set]
  by_cases e : m = i
  · subst e
    by_cases hl : m < q.length
    · simp [hl]; simp [List.getD, hl] at h; exact h.symm
    · simp [hl]
  · simp [e]
/-- A digit of 0: the list stays. -/
theorem DivRel.skip {a q : List Int} {B r : Int} {m : Nat} (h : DivRel a q B (m + 1) r) (hm : m < a.length) (y : Int) (hy : a.getD m 0 = y) (y0 : 0 ≤ y) (h2 : r * 1000 + y < B) : DivRel a q B m (r * 1000 + y) := by
  have hr : 0 ≤ r := by obtain ⟨_, _, _, _, _, e4, _⟩ := h; exact e4
  have hz : q.getD m 0 = 0 := by obtain ⟨_, _, _, _, _, _, _, _, _, e8, _⟩ := h; exact e8 m (by omega)
  have := h.step hm y 0 hy (by omega) (by omega) (by omega) (by omega)
  rw [set_zero hz] at this
  simpa using this
theorem DivRel.first {a q : List Int} {B r : Int} {m : Nat} (h : DivRel a q B m r) {y : Int} (y1 : y ≤ 999) : r * 1000 + y < (999 + 1) * B := by
  obtain ⟨_, _, _, _, _, e4, e5, _⟩ := h
  rw [show ((999 : Int) + 1) = 1000 from rfl]; omega
theorem DivRel.stop {a q : List Int} {B r : Int} (h : DivRel a q B 0 r) : val a = val q * B + r ∧ 0 ≤ r ∧ r < B ∧ Dig q ∧ q.length = a.length ∧ 0 ≤ val q := by
  obtain ⟨X, Q, e1, e2, e3, e4, e5, e6, e7, e8, e9⟩ := h
  simp [valN] at e1 e2
  rw [e2, e1, e3]
  exact ⟨rfl, e4, e5, e6, e7, e9⟩
section
variable {P : Program} (w : World)
theorem run_append_nil (base : Nat) (t ty e : TypeId) (i : TypeInfo) (size : Nat) (ht : P.underlying t = some (.slice e)) (hi : P.info? e = some i)
    (v : Value) (n : Nat) (xs : List Value) (hown : w.ownsRow base e size v n xs) (c : Nat) : (Builtin.append_ #[t, t] ty #[v, .slice none 0 c]).run P w = .ok v w := by
  rcases hown.2 with ⟨rfl, rfl⟩ | ⟨g, cap, cur, rfl, _, _, hnc, _⟩
  · simp [Builtin.append_, run_underlying ht, sizeOf, typeInfo, hi, Builtin.lenOf, Builtin.firstCells]
  · simp [Builtin.append_, run_underlying ht, sizeOf, typeInfo, hi, Builtin.lenOf, Builtin.firstCells, hnc, storeCells]
/-- An append of integers that are read elsewhere (nil and empty among them) to a row of the call's own. -/
theorem run_append_ints (base : Nat) (t ty e : TypeId) (i : TypeInfo) (z : Value) (bytes : Nat) (ht : P.underlying t = some (.slice e)) (hi : P.info? e = some i) (hz : i.zero = some z) (hsize : i.size = 1) (hby : i.bytes = bytes) (hzs : z.cells.size = 1)
    (k : IntKind) (v v2 : Value) (zs ns : List Int) (hown : w.ownsRow base e 1 v zs.length (zs.map (Value.int k))) (hv2 : Ints k w v2 ns) (h63 : zs.length + ns.length ≤ maxLen) (hbytes : (zs.length + ns.length) * bytes ≤ 140737488355328) (hbase : base ≤ w.heap.size) :
    ∃ v' w', (Builtin.append_ #[t, t] ty #[v, v2]).run P w = .ok v' w' ∧ w'.ownsRow base e 1 v' (zs ++ ns).length ((zs ++ ns).map (Value.int k)) ∧ w.grownBy w' v.ownBlock := by
  obtain ⟨a, cap, rfl, hc, ha⟩ := hv2
  have one : ∀ u ∈ ns.map (Value.int k), u.oneCell' = true := by
    intro u hu; obtain ⟨x, _, rfl⟩ := List.mem_map.1 hu; rfl
  have fin : ∀ (v' : Value) (w' : World), w'.ownsRow base e 1 v' (zs.length + ns.length) (zs.map (Value.int k) ++ ns.map (Value.int k)) → w'.ownsRow base e 1 v' (zs ++ ns).length ((zs ++ ns).map (Value.int k)) := fun v' w' h => by
    simpa using h
  cases a with
  | none =>
    have hn : ns = [] := by
      rcases ha with h | ⟨b, off, h, _⟩
      · exact h
      · cases h
    subst hn
    exact ⟨v, w, run_append_nil w base t ty e i 1 ht hi v _ _ hown cap, fin v w (by simpa using hown), World.grownBy.refl w _⟩
  | some ad =>
    have hnews : ∀ j u, (ns.map (Value.int k))[j]? = some u → w.cell? (ad.add j) = some u := fun j u hj => by
      rcases ha with h | ⟨b, off, h, _, hcell⟩
      · subst h; simp at hj
      · simp only [Option.some.injEq] at h
        subst h
        rw [List.getElem?_map] at hj
        obtain ⟨x, hx, rfl⟩ := Option.map_eq_some_iff.1 hj
        have hl := (List.getElem?_eq_some_iff.1 hx).1
        have hh := hcell j hl
        have e1 : ns.getD j 0 = x := by simp [List.getD, hx]
        rw [e1] at hh
        by_cases h0 : j = 0
        · subst h0; simpa [Addr.add] using hh
        · simpa [Addr.add, h0] using hh
    obtain ⟨v', w', hrun, r1, r2, _⟩ := run_append_own (P := P) w base t ty e i z 1 bytes ht hi hz hsize hby hzs (by omega) v zs.length _ hown ad ns.length cap (ns.map (Value.int k)) (by simp) hnews one h63 hbytes hbase
    exact ⟨v', w', hrun, fin v' w' r1, r2⟩
/-- The same as an operation of a region that draws its order. -/
theorem step_append_ints {ops : Array Oper} {o : Oper} {a : Act} {K : Act → World → Prop} {Q : Exit → Act → World → Prop} {E : Prop} (hgd : o.guard = none) (s x : Operand) (t : TypeId)
    (ho : o.op = .call { callee := .builtin .append, args := #[s, x], argTypes := #[t, t] })
    (base : Nat) (e : TypeId) (i : TypeInfo) (z : Value) (bytes : Nat) (ht : P.underlying t = some (.slice e)) (hi : P.info? e = some i) (hz : i.zero = some z) (hsize : i.size = 1) (hby : i.bytes = bytes) (hzs : z.cells.size = 1)
    (k : IntKind) (v v2 : Value) (zs ns : List Int) (hs : a.eval s = v) (hx : a.eval x = v2) (hown : w.ownsRow base e 1 v zs.length (zs.map (Value.int k))) (hv2 : Ints k w v2 ns) (h63 : zs.length + ns.length ≤ maxLen) (hbytes : (zs.length + ns.length) * bytes ≤ 140737488355328) (hbase : base ≤ w.heap.size)
    (h : ∀ v' w', w'.ownsRow base e 1 v' (zs ++ ns).length ((zs ++ ns).map (Value.int k)) → w.grownBy w' v.ownBlock → K (a.put o.dst v') w') :
    if Region.wanted o (yielded ops a.tmps) = true then Oper.wp P o a w K Q else E := by
  have hw : Region.wanted o (yielded ops a.tmps) = true := by simp [Region.wanted, hgd]
  rw [if_pos hw]
  obtain ⟨v', w', hrun, r1, r2⟩ := run_append_ints (P := P) w base t o.type e i z bytes ht hi hz hsize hby hzs k v v2 zs ns hown hv2 h63 hbytes hbase
  unfold Oper.wp
  simp [execOp, ho, resolve, invoke, builtin, hs, hx, hrun, Result.andThen]
  exact h v' w' r1 r2
end
end Go.Proofs.YtigikgphipebiaaGreatDoor
/- Rows of words that a call made itself; Trim and Of of package nat. -/
namespace Go.Proofs.YtigikgphipebiaaGreatDoor
set_option maxRecDepth 100000
open Go.RowKit
set_option linter.unusedVariables false
/-- What is left of a list of words without the noughts at its end. -/
def Cut (ap : Option Addr) (cap : Nat) (a : List Int) (v : Value) (n : Nat) : Prop :=
  (n = 0 ∧ v = .slice none 0 0 ∨ 0 < n ∧ v = .slice ap n cap) ∧ n ≤ a.length ∧ (∀ j, n ≤ j → a.getD j 0 = 0) ∧ Tidy (a.take n)
def CutPost (ap : Option Addr) (cap : Nat) (a : List Int) (w : World) (e : Ending) (w' : World) : Prop := ∃ v n, e = .returned v ∧ Cut ap cap a v n ∧ w = w'
theorem cut_none {ap : Option Addr} {cap : Nat} {a : List Int} (h : ∀ j, 0 ≤ j → a.getD j 0 = 0) : Cut ap cap a (.slice none 0 0) 0 :=
  ⟨.inl ⟨rfl, rfl⟩, Nat.zero_le _, h, .inl rfl⟩
theorem cut_some {ap : Option Addr} {cap : Nat} {a : List Int} {m : Nat} (hm : m < a.length) (h : ∀ j, m + 1 ≤ j → a.getD j 0 = 0) (h0 : a.getD m 0 ≠ 0) : Cut ap cap a (.slice ap (m + 1) cap) (m + 1) :=
  ⟨.inr ⟨by omega, rfl⟩, hm, h, tidy_take (by omega) (.inr h0)⟩
theorem zeros_step {a : List Int} {m : Nat} (h : ∀ j, m + 1 ≤ j → a.getD j 0 = 0) (h0 : a.getD m 0 = 0) : ∀ j, m ≤ j → a.getD j 0 = 0 := fun j hj => by
  by_cases e : j = m
  · rw [e]; exact h0
  · exact h j (by omega)
set_option maxHeartbeats 1000000 in
theorem sig_any (ap : Option Addr) (L cap : Nat) (a : List Int) (w : World) (hv : Ints .u32 w (.slice ap L cap) a) (hl : L ≤ 1099511627776) :
    Calls Tryz.prog 165 #[.slice ap L cap] w (CutPost ap cap a w) := by
  have hL : a.length = L := by obtain ⟨_, _, e, _⟩ := hv; simp at e; exact e.2.1.symm
  have hcap : L ≤ cap := by obtain ⟨_, _, e, h, _⟩ := hv; simp at e; omega
  have HV := Lib.hid hv
  have HL := Lib.hid hL
  clear hv hL
  go_enter Tryz.func165, Tryz.ntmps165
  go_wp2_with fail
  go_loop [7] (fun i => ∃ (k m : Nat), Hid (L = k + m) ∧ k ≤ L ∧ i = .int .i64 k ∧ Hid (∀ j, m ≤ j → a.getD j 0 = 0)) (fun i => L - (intOf i).toNat)
  case atStart => exact ⟨0, L, Lib.hid (by omega), by omega, rfl, Lib.hid (fun j hj => getD_past (by have := HL.out; omega))⟩
  case round =>
    obtain ⟨k, m, hm, hk, rfl, hz⟩ := hrel
    by_cases hlt : k < L
    · obtain ⟨n, rfl⟩ : ∃ n, m = n + 1 := ⟨m - 1, by have := hm.out; omega⟩
      obtain ⟨b, off, hap, hb, hcell⟩ := HV.out.cell (i := n) (by have := hm.out; have := HL.out; omega)
      subst hap
      have hi0 : (0 : Int) ≤ L - k - 1 := by omega
      have hi1 : (L : Int) - k - 1 < L := by omega
      have hiN : ((L : Int) - k - 1).toNat = n := by have := hm.out; omega
      have hiM : ((L : Int) - k).toNat = n + 1 := by have := hm.out; omega
      have hX := Lib.hid (fun (x : Int) (hx : a.getD n 0 = x) (e : x = 0) => zeros_step hz.out (by rw [hx, e]))
      have hY := Lib.hid (fun (x : Int) (hx : a.getD n 0 = x) (e : x ≠ 0) => (cut_some (ap := some ⟨b, off, none⟩) (cap := cap) (m := n) (by have := hm.out; have := HL.out; omega) hz.out (by rw [hx]; exact e)))
      generalize hx : a.getD n 0 = x at *
      have hX2 := Lib.hid (hX.out x rfl)
      have hY2 := Lib.hid (hY.out x rfl)
      clear hX hY hx hz
      by_cases h0 : x = 0
      · subst h0
        go_wp2_with fail
        go_round
        case rel => exact ⟨k + 1, n, Lib.hid (by have := hm.out; omega), by omega, by go_num, Lib.hid (hX2.out rfl)⟩
        case measure => simp [intOf]; omega
      · go_wp2_with fail
        go_ret
        exact ⟨_, _, rfl, hY2.out h0, rfl⟩
    · have hE := Lib.hid (cut_none (ap := ap) (cap := cap) (fun j hj => hz.out j (by have := hm.out; omega)))
      clear hz
      go_wp2_with fail
      go_ret
      exact ⟨_, _, rfl, hE.out, rfl⟩
/-- A list of words read, with a bound on its length. -/
def WList (w : World) (v : Value) (a : List Int) : Prop := Ints .u32 w v a ∧ Wd a ∧ a.length ≤ 1099511627776
theorem WList.below {w w' : World} {v : Value} {a : List Int} (h : WList w v a) (hb : Below w.heap.size w w') : WList w' v a := ⟨h.1.below hb, h.2⟩
theorem WList.nil {w : World} : WList w (.slice none 0 0) [] := ⟨⟨none, 0, rfl, by simp, .inl rfl⟩, Wd.nil, by simp⟩
theorem WList.shape {w : World} {v : Value} {a : List Int} (h : WList w v a) : ∃ p c, v = .slice p a.length c := by
  obtain ⟨⟨p, c, e, _⟩, _⟩ := h; exact ⟨p, c, e⟩
theorem Cut.wlist {w : World} {ap : Option Addr} {cap n : Nat} {a : List Int} {v : Value} (h : Cut ap cap a v n) (hv : WList w (.slice ap a.length cap) a) : WList w v (a.take n) ∧ wv (a.take n) = wv a ∧ Tidy (a.take n) := by
  obtain ⟨h1, h2, h3, h4⟩ := h
  refine ⟨?_, wv_take h2 h3, h4⟩
  rcases h1 with ⟨rfl, rfl⟩ | ⟨_, rfl⟩
  · exact WList.nil
  · exact ⟨hv.1.take h2, hv.2.1.take n, by rw [List.length_take]; have := hv.2.2; omega⟩
/-- The trim list of a number. -/
def IsNat (w : World) (v : Value) (z : Int) : Prop := ∃ a, WList w v a ∧ Tidy a ∧ wv a = z
theorem IsNat.below {w w' : World} {v : Value} {z : Int} (h : IsNat w v z) (hb : Below w.heap.size w w') : IsNat w' v z := by
  obtain ⟨a, h1, h2, h3⟩ := h; exact ⟨a, h1.below hb, h2, h3⟩
set_option maxHeartbeats 400000 in
theorem sign_any (b : Bool) (w : World) : Calls Tryz.prog 247 #[.bool b] w fun e w' => e = .returned (.int .i64 (bif b then -1 else 1)) ∧ w = w' := by
  cases b
  all_goals
    go_enter Tryz.func247, Tryz.ntmps247
    go_wp2
    go_ret
    exact ⟨rfl, rfl⟩
set_option maxRecDepth 100000
open Go.RowKit
set_option linter.unusedVariables false
theorem Tryz.infoU32 : (Tryz.prog.info? 27).map (fun i => (i.zero, i.size, i.bytes)) = some (some (.int .u32 0), 1, 4) := by kernel_rfl
/-- A row of words of the call's own: block g, from B on. -/
def WRow (w : World) (B g cap : Nat) (a : List Int) : Prop := w.ownsRow B 27 1 (.slice (some ⟨g, 0, none⟩) a.length cap) a.length (a.map (Value.int .u32))
theorem WRow.facts {w : World} {B g cap : Nat} {a : List Int} (h : WRow w B g cap a) : B ≤ g ∧ g < w.heap.size ∧ a.length ≤ cap ∧ cap ≤ maxLen ∧ ∀ j, j < a.length → w.cell? ⟨g, j, none⟩ = some (.int .u32 (a.getD j 0)) ∧ w.frozen? ⟨g, j, none⟩ = false := by
  have h0 := h
  obtain ⟨hl, hh⟩ := h
  have h1 := World.ownsRow.lt h0 g rfl
  refine ⟨h1.1, h1.2, ?_, ?_, fun j hj => ⟨?_, World.ownsRow.frozenAt h0 j⟩⟩
  · rcases hh with ⟨e, _⟩ | ⟨g', cap', cur, e, _, _, hc, _⟩
    · simp at e
    · simp at e; omega
  · rcases hh with ⟨e, _⟩ | ⟨g', cap', cur, e, _, _, _, hc, _⟩
    · simp at e
    · simp at e; omega
  · rw [World.ownsRow.cellAt h0 j (by omega)]
    simp [List.getD, hj]
theorem WRow.set {w : World} {B g cap : Nat} {a : List Int} (h : WRow w B g cap a) (j : Nat) (x : Int) : WRow (w.setCell ⟨g, j, none⟩ (.int .u32 x)) B g cap (a.set j x) := by
  have := (World.ownsRow.stored h j (.int .u32 x)).1
  simpa [WRow, List.map_set] using this
theorem WRow.drewN {w : World} {B g cap : Nat} {a : List Int} (h : WRow w B g cap a) (n : Nat) : WRow (w.drewN n) B g cap a := h
theorem WRow.call {w w' : World} {B g cap : Nat} {a : List Int} (h : WRow w B g cap a) (hb : Below w.heap.size w w') : WRow w' B g cap a := by
  obtain ⟨h1, h2⟩ := h
  refine ⟨h1, ?_⟩
  rcases h2 with h2 | ⟨g', cap', cur, e, h3, h4, h5⟩
  · exact .inl h2
  · exact .inr ⟨g', cap', cur, e, h3, by rw [hb.block g' (Array.getElem?_eq_some_iff.1 h4).1]; exact h4, h5⟩
theorem WRow.wlist {w : World} {B g cap : Nat} {a : List Int} (h : WRow w B g cap a) (hd : Wd a) (hl : a.length ≤ 1099511627776) : WList w (.slice (some ⟨g, 0, none⟩) a.length cap) a := ⟨Ints.own h, hd, hl⟩
theorem below_set {B : Nat} {w w' : World} {g : Nat} (h : Below B w w') (hg : B ≤ g) (j : Nat) (x : Value) : Below B w (w'.setCell ⟨g, j, none⟩ x) := h.setCell hg x
theorem wrow_made {w w0 : World} {n : Nat} {z : Array Value} (hz : z = #[.int .u32 0]) (hown : w0.ownsRow w.heap.size 27 1 (.slice (some ⟨w.heap.size, 0, none⟩) n n) n (madeCells z (n * 1)).toList) (hg : w.grownBy w0 none) :
    WRow w0 w.heap.size w.heap.size n (List.replicate n 0) ∧ Below w.heap.size w w0 := by
  subst hz
  refine ⟨?_, (Below.refl _ _).grown hg (Nat.le_refl _) (fun k hk => by cases hk)⟩
  rw [toList_madeCells_one] at hown
  simpa [WRow] using hown
theorem Cut.own {w : World} {B g cap n : Nat} {a : List Int} {v : Value} (h : Cut (some ⟨g, 0, none⟩) cap a v n) (hr : WRow w B g cap a) : w.ownsRow B 27 1 v (a.take n).length ((a.take n).map (Value.int .u32)) := by
  obtain ⟨h1, h2, h3, h4⟩ := h
  have hl : (a.take n).length = n := by rw [List.length_take]; omega
  rcases h1 with ⟨rfl, rfl⟩ | ⟨_, rfl⟩
  · exact World.ownsRow_nil _ _ _ _
  · obtain ⟨k1, k2⟩ := hr
    refine ⟨by simp, ?_⟩
    rcases k2 with ⟨e, _⟩ | ⟨g', cap', cur, e, q1, q2, q3, q4, q5, q6⟩
    · simp at e
    · refine .inr ⟨g', cap', cur, by simp at e ⊢; exact ⟨e.1, by omega, e.2⟩, q1, q2, by omega, q4, q5, ?_⟩
      have := congrArg (List.take n) q6
      rw [List.take_take] at this
      rw [hl, show n * 1 = min n (a.length * 1) from by omega, this, List.map_take]
/-- What the calls answer that make a list: trim, new memory, the number z. -/
def Fresh (w : World) (z : Int) (m : Nat) (e : Ending) (w' : World) : Prop :=
  ∃ v a, e = .returned v ∧ w'.ownsRow w.heap.size 27 1 v a.length (a.map (Value.int .u32)) ∧ Wd a ∧ Tidy a ∧ wv a = z ∧ a.length ≤ m ∧ Below w.heap.size w w'
theorem own_wlist {w : World} {B : Nat} {v : Value} {a : List Int} (h : w.ownsRow B 27 1 v a.length (a.map (Value.int .u32))) (hd : Wd a) (hl : a.length ≤ 1099511627776) : WList w v a := ⟨Ints.own h, hd, hl⟩
section
variable {P : Program} (w : World)
/-- An append of integers that are read elsewhere, in a plain region. -/
theorem wpList_append_ints {ops : Array Oper} {rest : List Oper} {o : Oper} {a : Act} {Q : Exit → Act → World → Prop} (hgd : o.guard = none) (s x : Operand) (t : TypeId)
    (ho : o.op = .call { callee := .builtin .append, args := #[s, x], argTypes := #[t, t] })
    (base : Nat) (e : TypeId) (i : TypeInfo) (z : Value) (bytes : Nat) (ht : P.underlying t = some (.slice e)) (hi : P.info? e = some i) (hz : i.zero = some z) (hsize : i.size = 1) (hby : i.bytes = bytes) (hzs : z.cells.size = 1)
    (k : IntKind) (v v2 : Value) (zs ns : List Int) (hs : a.eval s = v) (hx : a.eval x = v2) (hown : w.ownsRow base e 1 v zs.length (zs.map (Value.int k))) (hv2 : Ints k w v2 ns) (h63 : zs.length + ns.length ≤ maxLen) (hbytes : (zs.length + ns.length) * bytes ≤ 140737488355328) (hbase : base ≤ w.heap.size)
    (h : ∀ v' w', w'.ownsRow base e 1 v' (zs ++ ns).length ((zs ++ ns).map (Value.int k)) → w.grownBy w' v.ownBlock → wpList P ops Q rest (a.put o.dst v') w') : wpList P ops Q (o :: rest) a w :=
  wpList_plain hgd fun _ hK => by
    obtain ⟨v', w', hrun, r1, r2⟩ := run_append_ints (P := P) w base t o.type e i z bytes ht hi hz hsize hby hzs k v v2 zs ns hown hv2 h63 hbytes hbase
    unfold Oper.wp
    simp [execOp, ho, resolve, invoke, builtin, hs, hx, hrun, Result.andThen]
    exact hK _ _ (h v' w' r1 r2)
end
set_option maxHeartbeats 400000 in
theorem trim_any (v : Value) (a : List Int) (w : World) (hv : WList w v a) (z : Int) (hz : wv a = z) :
    Calls Tryz.prog 171 #[v] w (Fresh w z a.length) := by
  obtain ⟨i0, hi, hz0, hz1, hz2⟩ := info_parts Tryz.infoU32
  obtain ⟨p, c, rfl⟩ := hv.shape
  have HV := Lib.hid hv
  have HS := Lib.hid (sig_any p a.length c a w hv.1 hv.2.2)
  clear hv
  go_enter Tryz.func171, Tryz.ntmps171
  go_wp2_with fail
  refine (HS.out).mono ?_; rintro e w' ⟨u, n, rfl, hc, rfl⟩
  have hw := hc.wlist HV.out
  have hn := hc.2.1
  have HW := Lib.hid hw.2
  have hI := hw.1.1
  have hD := hw.1.2.1
  have hL : (a.take n).length ≤ a.length := by rw [List.length_take]; omega
  have hA : a.length ≤ 1099511627776 := HV.out.2.2
  clear hc hw HV HS
  go_wp2_with (at_builtin; refine wpList_append_ints _ rfl _ _ 24 rfl w.heap.size 27 i0 (.int .u32 0) 4 Tryz.underlying24 hi hz0 hz1 hz2 rfl .u32 _ _ [] (a.take n) rfl rfl (World.ownsRow_nil _ _ _ _) hI (by unfold maxLen; simp; omega) (by simp; omega) (Nat.le_refl _) ?_; intro v' w1 hown hgrow)
  go_ret
  exact ⟨v', a.take n, rfl, by simpa using hown, hD, HW.out.2, HW.out.1.trans hz, hL, (Below.refl _ _).grown hgrow (Nat.le_refl _) (fun k hk => by cases hk)⟩
end Go.Proofs.YtigikgphipebiaaGreatDoor
