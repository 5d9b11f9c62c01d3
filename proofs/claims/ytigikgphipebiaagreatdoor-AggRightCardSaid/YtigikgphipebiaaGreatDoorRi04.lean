/- Contracts that the law leans on, pruned and merged: Natb Nate. -/
import Derived.WalkKit
import Derived.WalkSpells
import Derived.WalkLawsBesides
import Derived.WalkSmall
import Derived.Deep.QuietTactic
import Derived.BigQuiet
import Derived.Lib.Hide
import Derived.OwnWalk
import Derived.Shelf.Spec.TrailingZeros
import Derived.Laws.Bits64b
import Derived.Lib.BitFns
import Derived.Lib.Small
import Derived.Lib.Strings
import Derived.Lib.Slices
import Derived.Lib.Walk
import Derived.Test.YtigikgphipebiaaGreatDoorProg
import Derived.Test.YtigikgphipebiaaGreatDoorRi01
import Derived.Test.YtigikgphipebiaaGreatDoorRi02
import Derived.Test.YtigikgphipebiaaGreatDoorRi03
/- Rows of words that a call made itself; Trim and Of of package nat. -/
namespace Go.Proofs.YtigikgphipebiaaGreatDoor
set_option maxRecDepth 100000
open Go.RowKit
set_option linter.unusedVariables false
/-- What is left of a list of words without the noughts at its end. -/
def Cut (ap : Option Addr) (cap : Nat) (a : List Int) (v : Value) (n : Nat) : Prop :=
  (n = 0 ∧ v = .slice none 0 0 ∨ 0 < n ∧ v = .slice ap n cap) ∧ n ≤ a.length ∧ (∀ j, n ≤ j → a.getD j 0 = 0) ∧ Tidy (a.take n)
def CutPost (ap : Option Addr) (cap : Nat) (a : List Int) (w : World) (e : Ending) (w' : World) : Prop := ∃ v n, e = .returned v ∧ Cut ap cap a v n ∧ w = w'
theorem cut_none {ap : Option Addr} {cap : Nat} {a : List Int} (h : ∀ j, 0 ≤ j → a.getD j 0 = 0) : Cut ap cap a (.slice none 0 0) 0 :=
  ⟨.inl ⟨rfl, rfl⟩, Nat.zero_le _, h, .inl rfl⟩
theorem cut_some {ap : Option Addr} {cap : Nat} {a : List Int} {m : Nat} (hm : m < a.length) (h : ∀ j, m + 1 ≤ j → a.getD j 0 = 0) (h0 : a.getD m 0 ≠ 0) : Cut ap cap a (.slice ap (m + 1) cap) (m + 1) :=
  ⟨.inr ⟨by omega, rfl⟩, hm, h, tidy_take (by omega) (.inr h0)⟩
theorem zeros_step {a : List Int} {m : Nat} (h : ∀ j, m + 1 ≤ j → a.getD j 0 = 0) (h0 : a.getD m 0 = 0) : ∀ j, m ≤ j → a.getD j 0 = 0 := fun j hj => by
  by_cases e : j = m
  · rw [e]; exact h0
  · exact h j (by omega)
set_option maxHeartbeats 1000000 in
theorem sig_any (ap : Option Addr) (L cap : Nat) (a : List Int) (w : World) (hv : Ints .u32 w (.slice ap L cap) a) (hl : L ≤ 1099511627776) :
    Calls Tryz.prog 165 #[.slice ap L cap] w (CutPost ap cap a w) := by
  have hL : a.length = L := by obtain ⟨_, _, e, _⟩ := hv; simp at e; exact e.2.1.symm
  have hcap : L ≤ cap := by obtain ⟨_, _, e, h, _⟩ := hv; simp at e; omega
  have HV := Lib.hid hv
  have HL := Lib.hid hL
  clear hv hL
  go_enter Tryz.func165, Tryz.ntmps165
  go_wp2_with fail
  go_loop [7] (fun i => ∃ (k m : Nat), Hid (L = k + m) ∧ k ≤ L ∧ i = .int .i64 k ∧ Hid (∀ j, m ≤ j → a.getD j 0 = 0)) (fun i => L - (intOf i).toNat)
  case atStart => exact ⟨0, L, Lib.hid (by omega), by omega, rfl, Lib.hid (fun j hj => getD_past (by have := HL.out; omega))⟩
  case round =>
    obtain ⟨k, m, hm, hk, rfl, hz⟩ := hrel
    by_cases hlt : k < L
    · obtain ⟨n, rfl⟩ : ∃ n, m = n + 1 := ⟨m - 1, by have := hm.out; omega⟩
      obtain ⟨b, off, hap, hb, hcell⟩ := HV.out.cell (i := n) (by have := hm.out; have := HL.out; omega)
      subst hap
      have hi0 : (0 : Int) ≤ L - k - 1 := by omega
      have hi1 : (L : Int) - k - 1 < L := by omega
      have hiN : ((L : Int) - k - 1).toNat = n := by have := hm.out; omega
      have hiM : ((L : Int) - k).toNat = n + 1 := by have := hm.out; omega
      have hX := Lib.hid (fun (x : Int) (hx : a.getD n 0 = x) (e : x = 0) => zeros_step hz.out (by rw [hx, e]))
      have hY := Lib.hid (fun (x : Int) (hx : a.getD n 0 = x) (e : x ≠ 0) => (cut_some (ap := some ⟨b, off, none⟩) (cap := cap) (m := n) (by have := hm.out; have := HL.out; omega) hz.out (by rw [hx]; exact e)))
      generalize hx : a.getD n 0 = x at *
      have hX2 := Lib.hid (hX.out x rfl)
      have hY2 := Lib.hid (hY.out x rfl)
      clear hX hY hx hz
      by_cases h0 : x = 0
      · subst h0
        go_wp2_with fail
        go_round
        case rel => exact ⟨k + 1, n, Lib.hid (by have := hm.out; omega), by omega, by go_num, Lib.hid (hX2.out rfl)⟩
        case measure => simp [intOf]; omega
      · go_wp2_with fail
        go_ret
        exact ⟨_, _, rfl, hY2.out h0, rfl⟩
    · have hE := Lib.hid (cut_none (ap := ap) (cap := cap) (fun j hj => hz.out j (by have := hm.out; omega)))
      clear hz
      go_wp2_with fail
      go_ret
      exact ⟨_, _, rfl, hE.out, rfl⟩
/-- A list of words read, with a bound on its length. -/
def WList (w : World) (v : Value) (a : List Int) : Prop := Ints .u32 w v a ∧ Wd a ∧ a.length ≤ 1099511627776
theorem WList.below {w w' : World} {v : Value} {a : List Int} (h : WList w v a) (hb : Below w.heap.size w w') : WList w' v a := ⟨h.1.below hb, h.2⟩
theorem WList.nil {w : World} : WList w (.slice none 0 0) [] := ⟨⟨none, 0, rfl, by simp, .inl rfl⟩, Wd.nil, by simp⟩
theorem WList.shape {w : World} {v : Value} {a : List Int} (h : WList w v a) : ∃ p c, v = .slice p a.length c := by
  obtain ⟨⟨p, c, e, _⟩, _⟩ := h; exact ⟨p, c, e⟩
theorem Cut.wlist {w : World} {ap : Option Addr} {cap n : Nat} {a : List Int} {v : Value} (h : Cut ap cap a v n) (hv : WList w (.slice ap a.length cap) a) : WList w v (a.take n) ∧ wv (a.take n) = wv a ∧ Tidy (a.take n) := by
  obtain ⟨h1, h2, h3, h4⟩ := h
  refine ⟨?_, wv_take h2 h3, h4⟩
  rcases h1 with ⟨rfl, rfl⟩ | ⟨_, rfl⟩
  · exact WList.nil
  · exact ⟨hv.1.take h2, hv.2.1.take n, by rw [List.length_take]; have := hv.2.2; omega⟩
/-- The trim list of a number. -/
def IsNat (w : World) (v : Value) (z : Int) : Prop := ∃ a, WList w v a ∧ Tidy a ∧ wv a = z
theorem IsNat.below {w w' : World} {v : Value} {z : Int} (h : IsNat w v z) (hb : Below w.heap.size w w') : IsNat w' v z := by
  obtain ⟨a, h1, h2, h3⟩ := h; exact ⟨a, h1.below hb, h2, h3⟩
set_option maxHeartbeats 400000 in
theorem sign_any (b : Bool) (w : World) : Calls Tryz.prog 247 #[.bool b] w fun e w' => e = .returned (.int .i64 (bif b then -1 else 1)) ∧ w = w' := by
  cases b
  all_goals
    go_enter Tryz.func247, Tryz.ntmps247
    go_wp2
    go_ret
    exact ⟨rfl, rfl⟩
set_option maxRecDepth 100000
open Go.RowKit
set_option linter.unusedVariables false
theorem Tryz.infoU32 : (Tryz.prog.info? 27).map (fun i => (i.zero, i.size, i.bytes)) = some (some (.int .u32 0), 1, 4) := by kernel_rfl
/-- A row of words of the call's own: block g, from B on. -/
def WRow (w : World) (B g cap : Nat) (a : List Int) : Prop := w.ownsRow B 27 1 (.slice (some ⟨g, 0, none⟩) a.length cap) a.length (a.map (Value.int .u32))
theorem WRow.facts {w : World} {B g cap : Nat} {a : List Int} (h : WRow w B g cap a) : B ≤ g ∧ g < w.heap.size ∧ a.length ≤ cap ∧ cap ≤ maxLen ∧ ∀ j, j < a.length → w.cell? ⟨g, j, none⟩ = some (.int .u32 (a.getD j 0)) ∧ w.frozen? ⟨g, j, none⟩ = false := by
  have h0 := h
  obtain ⟨hl, hh⟩ := h
  have h1 := World.ownsRow.lt h0 g rfl
  refine ⟨h1.1, h1.2, ?_, ?_, fun j hj => ⟨?_, World.ownsRow.frozenAt h0 j⟩⟩
  · rcases hh with ⟨e, _⟩ | ⟨g', cap', cur, e, _, _, hc, _⟩
    · simp at e
    · simp at e; omega
  · rcases hh with ⟨e, _⟩ | ⟨g', cap', cur, e, _, _, _, hc, _⟩
    · simp at e
    · simp at e; omega
  · rw [World.ownsRow.cellAt h0 j (by omega)]
    simp [List.getD, hj]
theorem WRow.set {w : World} {B g cap : Nat} {a : List Int} (h : WRow w B g cap a) (j : Nat) (x : Int) : WRow (w.setCell ⟨g, j, none⟩ (.int .u32 x)) B g cap (a.set j x) := by
  have := (World.ownsRow.stored h j (.int .u32 x)).1
  simpa [WRow, List.map_set] using this
theorem WRow.drewN {w : World} {B g cap : Nat} {a : List Int} (h : WRow w B g cap a) (n : Nat) : WRow (w.drewN n) B g cap a := h
theorem WRow.call {w w' : World} {B g cap : Nat} {a : List Int} (h : WRow w B g cap a) (hb : Below w.heap.size w w') : WRow w' B g cap a := by
  obtain ⟨h1, h2⟩ := h
  refine ⟨h1, ?_⟩
  rcases h2 with h2 | ⟨g', cap', cur, e, h3, h4, h5⟩
  · exact .inl h2
  · exact .inr ⟨g', cap', cur, e, h3, by rw [hb.block g' (Array.getElem?_eq_some_iff.1 h4).1]; exact h4, h5⟩
theorem WRow.wlist {w : World} {B g cap : Nat} {a : List Int} (h : WRow w B g cap a) (hd : Wd a) (hl : a.length ≤ 1099511627776) : WList w (.slice (some ⟨g, 0, none⟩) a.length cap) a := ⟨Ints.own h, hd, hl⟩
theorem below_set {B : Nat} {w w' : World} {g : Nat} (h : Below B w w') (hg : B ≤ g) (j : Nat) (x : Value) : Below B w (w'.setCell ⟨g, j, none⟩ x) := h.setCell hg x
theorem wrow_made {w w0 : World} {n : Nat} {z : Array Value} (hz : z = #[.int .u32 0]) (hown : w0.ownsRow w.heap.size 27 1 (.slice (some ⟨w.heap.size, 0, none⟩) n n) n (madeCells z (n * 1)).toList) (hg : w.grownBy w0 none) :
    WRow w0 w.heap.size w.heap.size n (List.replicate n 0) ∧ Below w.heap.size w w0 := by
  subst hz
  refine ⟨?_, (Below.refl _ _).grown hg (Nat.le_refl _) (fun k hk => by cases hk)⟩
  rw [toList_madeCells_one] at hown
  simpa [WRow] using hown
theorem Cut.own {w : World} {B g cap n : Nat} {a : List Int} {v : Value} (h : Cut (some ⟨g, 0, none⟩) cap a v n) (hr : WRow w B g cap a) : w.ownsRow B 27 1 v (a.take n).length ((a.take n).map (Value.int .u32)) := by
  obtain ⟨h1, h2, h3, h4⟩ := h
  have hl : (a.take n).length = n := by rw [List.length_take]; omega
  rcases h1 with ⟨rfl, rfl⟩ | ⟨_, rfl⟩
  · exact World.ownsRow_nil _ _ _ _
  · obtain ⟨k1, k2⟩ := hr
    refine ⟨by simp, ?_⟩
    rcases k2 with ⟨e, _⟩ | ⟨g', cap', cur, e, q1, q2, q3, q4, q5, q6⟩
    · simp at e
    · refine .inr ⟨g', cap', cur, by simp at e ⊢; exact ⟨e.1, by omega, e.2⟩, q1, q2, by omega, q4, q5, ?_⟩
      have := congrArg (List.take n) q6
      rw [List.take_take] at this
      rw [hl, show n * 1 = min n (a.length * 1) from by omega, this, List.map_take]
/-- What the calls answer that make a list: trim, new memory, the number z. -/
def Fresh (w : World) (z : Int) (m : Nat) (e : Ending) (w' : World) : Prop :=
  ∃ v a, e = .returned v ∧ w'.ownsRow w.heap.size 27 1 v a.length (a.map (Value.int .u32)) ∧ Wd a ∧ Tidy a ∧ wv a = z ∧ a.length ≤ m ∧ Below w.heap.size w w'
theorem own_wlist {w : World} {B : Nat} {v : Value} {a : List Int} (h : w.ownsRow B 27 1 v a.length (a.map (Value.int .u32))) (hd : Wd a) (hl : a.length ≤ 1099511627776) : WList w v a := ⟨Ints.own h, hd, hl⟩
section
variable {P : Program} (w : World)
/-- An append of integers that are read elsewhere, in a plain region. -/
theorem wpList_append_ints {ops : Array Oper} {rest : List Oper} {o : Oper} {a : Act} {Q : Exit → Act → World → Prop} (hgd : o.guard = none) (s x : Operand) (t : TypeId)
    (ho : o.op = .call { callee := .builtin .append, args := #[s, x], argTypes := #[t, t] })
    (base : Nat) (e : TypeId) (i : TypeInfo) (z : Value) (bytes : Nat) (ht : P.underlying t = some (.slice e)) (hi : P.info? e = some i) (hz : i.zero = some z) (hsize : i.size = 1) (hby : i.bytes = bytes) (hzs : z.cells.size = 1)
    (k : IntKind) (v v2 : Value) (zs ns : List Int) (hs : a.eval s = v) (hx : a.eval x = v2) (hown : w.ownsRow base e 1 v zs.length (zs.map (Value.int k))) (hv2 : Ints k w v2 ns) (h63 : zs.length + ns.length ≤ maxLen) (hbytes : (zs.length + ns.length) * bytes ≤ 140737488355328) (hbase : base ≤ w.heap.size)
    (h : ∀ v' w', w'.ownsRow base e 1 v' (zs ++ ns).length ((zs ++ ns).map (Value.int k)) → w.grownBy w' v.ownBlock → wpList P ops Q rest (a.put o.dst v') w') : wpList P ops Q (o :: rest) a w :=
  wpList_plain hgd fun _ hK => by
    obtain ⟨v', w', hrun, r1, r2⟩ := run_append_ints (P := P) w base t o.type e i z bytes ht hi hz hsize hby hzs k v v2 zs ns hown hv2 h63 hbytes hbase
    unfold Oper.wp
    simp [execOp, ho, resolve, invoke, builtin, hs, hx, hrun, Result.andThen]
    exact hK _ _ (h v' w' r1 r2)
end
set_option maxHeartbeats 400000 in
theorem trim_any (v : Value) (a : List Int) (w : World) (hv : WList w v a) (z : Int) (hz : wv a = z) :
    Calls Tryz.prog 171 #[v] w (Fresh w z a.length) := by
  obtain ⟨i0, hi, hz0, hz1, hz2⟩ := info_parts Tryz.infoU32
  obtain ⟨p, c, rfl⟩ := hv.shape
  have HV := Lib.hid hv
  have HS := Lib.hid (sig_any p a.length c a w hv.1 hv.2.2)
  clear hv
  go_enter Tryz.func171, Tryz.ntmps171
  go_wp2_with fail
  refine (HS.out).mono ?_; rintro e w' ⟨u, n, rfl, hc, rfl⟩
  have hw := hc.wlist HV.out
  have hn := hc.2.1
  have HW := Lib.hid hw.2
  have hI := hw.1.1
  have hD := hw.1.2.1
  have hL : (a.take n).length ≤ a.length := by rw [List.length_take]; omega
  have hA : a.length ≤ 1099511627776 := HV.out.2.2
  clear hc hw HV HS
  go_wp2_with (at_builtin; refine wpList_append_ints _ rfl _ _ 24 rfl w.heap.size 27 i0 (.int .u32 0) 4 Tryz.underlying24 hi hz0 hz1 hz2 rfl .u32 _ _ [] (a.take n) rfl rfl (World.ownsRow_nil _ _ _ _) hI (by unfold maxLen; simp; omega) (by simp; omega) (Nat.le_refl _) ?_; intro v' w1 hown hgrow)
  go_ret
  exact ⟨v', a.take n, rfl, by simpa using hown, hD, HW.out.2, HW.out.1.trans hz, hL, (Below.refl _ _).grown hgrow (Nat.le_refl _) (fun k hk => by cases hk)⟩
end Go.Proofs.YtigikgphipebiaaGreatDoor
/- What Uint, Of and Noughts of package nat return. -/
namespace Go.Proofs.YtigikgphipebiaaGreatDoor
set_option maxRecDepth 100000
open Go.RowKit
set_option linter.unusedVariables false
theorem ofInt32_nat (a : Nat) (ha : a < 4294967296) : (BitVec.ofInt 32 (a : Int)).toNat = a := by
  rw [BitVec.ofInt_natCast, BitVec.toNat_ofNat]; exact Nat.mod_eq_of_lt (by omega)
theorem bits_or_u32_nat (a b : Nat) (ha : a < 4294967296) (hb : b < 4294967296) : bits .or .u32 (a : Int) (b : Int) = ((a ||| b : Nat) : Int) := by
  have hx : a ||| b < 2 ^ 32 := Nat.or_lt_two_pow (by omega) (by omega)
  show IntKind.u32.wrap ((BitVec.ofInt 32 (a : Int) ||| BitVec.ofInt 32 (b : Int)).toNat : Int) = _
  rw [BitVec.toNat_or, ofInt32_nat a ha, ofInt32_nat b hb, wrap_u32']
  omega
theorem bits_xor_u32_nat (a b : Nat) (ha : a < 4294967296) (hb : b < 4294967296) : bits .xor .u32 (a : Int) (b : Int) = ((a ^^^ b : Nat) : Int) := by
  have hx : a ^^^ b < 2 ^ 32 := Nat.xor_lt_two_pow (by omega) (by omega)
  show IntKind.u32.wrap ((BitVec.ofInt 32 (a : Int) ^^^ BitVec.ofInt 32 (b : Int)).toNat : Int) = _
  rw [BitVec.toNat_xor, ofInt32_nat a ha, ofInt32_nat b hb, wrap_u32']
  omega
theorem top_bit (v : Nat) (h : v < 4294967296) : v / 2147483648 = (v.testBit 31).toNat := by
  rw [Nat.testBit_eq_decide_div_mod_eq]
  have : v / 2 ^ 31 < 2 := by omega
  by_cases e : v / 2 ^ 31 % 2 = 1
  · simp [e]; omega
  · simp [e]; omega
theorem borrow_bit (X Y D : Nat) (c : Int) (hX : X < 4294967296) (hY : Y < 4294967296) (hD : (D : Int) = ((X : Int) - Y - c) % 4294967296) (c0 : 0 ≤ c) (c1 : c ≤ 1) :
    ((((4294967295 ^^^ X) &&& Y ||| (4294967295 ^^^ (X ^^^ Y)) &&& D : Nat)) : Int) / 2147483648 = -(((X : Int) - Y - c) / 4294967296) := by
  have hlt : ((4294967295 ^^^ X) &&& Y ||| (4294967295 ^^^ (X ^^^ Y)) &&& D) < 4294967296 :=
    Nat.or_lt_two_pow (n := 32) (Nat.and_lt_two_pow _ hY) (Nat.and_lt_two_pow _ (by omega))
  have h := top_bit _ hlt
  have hm : Nat.testBit 4294967295 31 = true := by decide
  rw [Nat.testBit_or, Nat.testBit_and, Nat.testBit_and, Nat.testBit_xor, Nat.testBit_xor, Nat.testBit_xor, hm] at h
  have hx := top_bit X hX
  have hy := top_bit Y hY
  have hd := top_bit D (by omega)
  generalize (4294967295 ^^^ X) &&& Y ||| (4294967295 ^^^ (X ^^^ Y)) &&& D = E at *
  cases ex : X.testBit 31 <;> cases ey : Y.testBit 31 <;> cases ed : D.testBit 31 <;> simp [ex, ey, ed] at h hx hy hd <;> omega
theorem sub_borrow (x y c : Int) (x0 : 0 ≤ x) (x1 : x ≤ 4294967295) (y0 : 0 ≤ y) (y1 : y ≤ 4294967295) (c0 : 0 ≤ c) (c1 : c ≤ 1) :
    bits .or .u32 (bits .and .u32 (bits .xor .u32 IntKind.u32.max x) y) (bits .and .u32 (bits .xor .u32 IntKind.u32.max (bits .xor .u32 x y)) ((x - y - c) % 4294967296)) / 2147483648 = -((x - y - c) / 4294967296) := by
  obtain ⟨X, rfl⟩ := Int.eq_ofNat_of_zero_le x0
  obtain ⟨Y, rfl⟩ := Int.eq_ofNat_of_zero_le y0
  obtain ⟨D, hD⟩ := Int.eq_ofNat_of_zero_le (a := ((X : Int) - Y - c) % 4294967296) (by omega)
  have hm : IntKind.u32.max = ((4294967295 : Nat) : Int) := rfl
  have hX : X < 4294967296 := by omega
  have hY : Y < 4294967296 := by omega
  have k1 : 4294967295 ^^^ X < 4294967296 := Nat.xor_lt_two_pow (n := 32) (by omega) hX
  have k2 : X ^^^ Y < 4294967296 := Nat.xor_lt_two_pow (n := 32) hX hY
  have k3 : 4294967295 ^^^ (X ^^^ Y) < 4294967296 := Nat.xor_lt_two_pow (n := 32) (by omega) k2
  have k4 : (4294967295 ^^^ X) &&& Y < 4294967296 := Nat.and_lt_two_pow (n := 32) _ hY
  have k5 : (4294967295 ^^^ (X ^^^ Y)) &&& D < 4294967296 := Nat.and_lt_two_pow (n := 32) _ (by omega)
  rw [hD, hm, bits_xor_u32_nat _ _ (by omega) hX, bits_and_u32_nat _ _ k1 hY, bits_xor_u32_nat _ _ hX hY, bits_xor_u32_nat _ _ (by omega) k2, bits_and_u32_nat _ _ k3 (by omega), bits_or_u32_nat _ _ k4 k5]
  exact borrow_bit X Y D c hX hY hD.symm c0 c1
theorem or_sum32 (a b k : Nat) (hb : b < 2 ^ k) (h : 2 ^ k * a + b < 4294967296) : bits .or .u32 ((2 ^ k * a : Nat) : Int) (b : Int) = ((2 ^ k * a + b : Nat) : Int) := by
  rw [bits_or_u32_nat _ _ (by omega) (by omega), Nat.two_pow_add_eq_or_of_lt hb]
theorem or_sum64' (a b k : Nat) (hb : b < 2 ^ k) (h : 2 ^ k * a + b < 18446744073709551616) : bits .or .u64 (b : Int) ((2 ^ k * a : Nat) : Int) = ((2 ^ k * a + b : Nat) : Int) := by
  rw [bits_or_u64_nat _ _ (by omega) (by omega), Nat.or_comm, Nat.two_pow_add_eq_or_of_lt hb]
theorem or_sum32' (a b k : Nat) (hb : b < 2 ^ k) (h : 2 ^ k * a + b < 4294967296) : bits .or .u32 (b : Int) ((2 ^ k * a : Nat) : Int) = ((2 ^ k * a + b : Nat) : Int) := by
  rw [bits_or_u32_nat _ _ (by omega) (by omega), Nat.or_comm, Nat.two_pow_add_eq_or_of_lt hb]
theorem or_words' (h l : Int) (h0 : 0 ≤ h) (h1 : h ≤ 4294967295) (l0 : 0 ≤ l) (l1 : l ≤ 4294967295) : bits .or .u64 l (h * 4294967296) = h * 4294967296 + l := by
  obtain ⟨H, rfl⟩ := Int.eq_ofNat_of_zero_le h0
  obtain ⟨L, rfl⟩ := Int.eq_ofNat_of_zero_le l0
  have := or_sum64' H L 32 (by omega) (by omega)
  have e : ((2 ^ 32 * H : Nat) : Int) = (H : Int) * 4294967296 := by omega
  rw [e] at this
  rw [this]; omega
theorem div_word_bounds {h l d : Int} (h0 : 0 ≤ h) (h1 : h < d) (l0 : 0 ≤ l) (l1 : l ≤ 4294967295) (d1 : d ≤ 4294967295) :
    0 ≤ (h * 4294967296 + l) / d ∧ (h * 4294967296 + l) / d ≤ 4294967295 ∧ 0 ≤ (h * 4294967296 + l) % d ∧ (h * 4294967296 + l) % d < d := by
  refine ⟨Int.ediv_nonneg (by omega) (by omega), ?_, Int.emod_nonneg _ (by omega), Int.emod_lt_of_pos _ (by omega)⟩
  have h2 : (h * 4294967296 + l) / d < 4294967296 := Int.ediv_lt_of_lt_mul (by omega) (by
    have : (h + 1) * 4294967296 ≤ d * 4294967296 := Int.mul_le_mul_of_nonneg_right (by omega) (by omega)
    have e : (h + 1) * 4294967296 = h * 4294967296 + 4294967296 := by omega
    rw [Int.mul_comm 4294967296 d]; omega)
  omega
set_option maxHeartbeats 400000 in
theorem add32_any (x y c : Int) (x0 : 0 ≤ x) (x1 : x ≤ 4294967295) (y0 : 0 ≤ y) (y1 : y ≤ 4294967295) (c0 : 0 ≤ c) (c1 : c ≤ 4294967295) (w : World) :
    Calls Tryz.prog 174 #[.int .u32 x, .int .u32 y, .int .u32 c] w fun e w' => e = .returned (.tuple #[.int .u32 ((x + y + c) % 4294967296), .int .u32 ((x + y + c) / 4294967296)]) ∧ w = w' := by
  go_enter Tryz.func174, Tryz.ntmps174
  go_wp2
  go_ret2
  exact ⟨ret_ii rfl (by omega), rfl⟩
set_option maxHeartbeats 400000 in
theorem sub32_any (x y c : Int) (x0 : 0 ≤ x) (x1 : x ≤ 4294967295) (y0 : 0 ≤ y) (y1 : y ≤ 4294967295) (c0 : 0 ≤ c) (c1 : c ≤ 1) (w : World) :
    Calls Tryz.prog 235 #[.int .u32 x, .int .u32 y, .int .u32 c] w fun e w' => e = .returned (.tuple #[.int .u32 ((x - y - c) % 4294967296), .int .u32 (-((x - y - c) / 4294967296))]) ∧ w = w' := by
  go_enter Tryz.func235, Tryz.ntmps235
  go_wp2
  go_ret2
  exact ⟨ret_ii rfl (sub_borrow x y c x0 x1 y0 y1 c0 c1), rfl⟩
theorem len8tab_at (j : Nat) (h : j < Lib.len8tab.size) : ((Lib.len8tab[j].toNat : Nat) : Int) = (Lib.bitLen j : Int) := by
  have hs := Lib.len8tab_size
  have e := Lib.len8_of (j : Int) (by omega) (by omega)
  have e2 : ((j : Int)).toNat = j := by omega
  rw [Lib.len8, e2, ByteArray.getElem?_lt' _ _ h] at e
  simpa using e
theorem wrap64_small {n : Int} (h1 : 0 ≤ n) (h2 : n ≤ 255) : wrap64 n = n := wrap64_in (by omega) (by omega)
theorem len_close (x i : Int) (s : Nat) (h : i.toNat < Lib.len8tab.size) (hs : s ≤ 56) (e : Lib.bitLen x.toNat = s + Lib.bitLen i.toNat) : wrap64 ((s : Int) + wrap64 ((Lib.len8tab[i.toNat].toNat : Nat) : Int)) = (Lib.bitLen x.toNat : Int) := by
  have h8 := Lib.bitLen_le8 ⟨i.toNat, by have := Lib.len8tab_size; omega⟩
  simp only at h8
  rw [len8tab_at _ h, wrap64_small (n := (Lib.bitLen i.toNat : Int)) (by omega) (by omega), wrap64_small (by omega) (by omega), e]
  omega
theorem len_close0 (x : Int) (h : x.toNat < Lib.len8tab.size) : wrap64 (wrap64 ((Lib.len8tab[x.toNat].toNat : Nat) : Int)) = (Lib.bitLen x.toNat : Int) := by
  have h8 := Lib.bitLen_le8 ⟨x.toNat, by have := Lib.len8tab_size; omega⟩
  simp only at h8
  rw [len8tab_at _ h, wrap64_small (n := (Lib.bitLen x.toNat : Int)) (by omega) (by omega), wrap64_small (by omega) (by omega)]
set_option maxHeartbeats 1000000 in
set_option maxRecDepth 100000 in
theorem len32_any (x : Int) (w : World) (h0 : 0 ≤ x) (h1 : x ≤ 4294967295) :
    Calls Tryz.prog 207 #[.int .u32 x] w fun e w' => e = .returned (.int .i64 (Lib.bitLen x.toNat)) ∧ w = w' := by
  have hsz := Lib.len8tab_size
  go_enter Tryz.func207, Tryz.ntmps207
  go_wp2
  all_goals (go_ret; refine ⟨ret_int ?_, rfl⟩)
  · exact len_close x _ 24 _ (by decide) ((Lib.bitLen_shift24 x.toNat (by omega) (by omega)).trans (by congr 2; omega))
  · exact len_close x _ 16 _ (by decide) ((Lib.bitLen_shift16 x.toNat (by omega) (by omega)).trans (by congr 2; omega))
  · exact len_close x _ 8 _ (by decide) ((Lib.bitLen_shift8 x.toNat (by omega) (by omega)).trans (by congr 2; omega))
  · exact len_close0 x _
set_option maxRecDepth 100000
open Go.RowKit
set_option linter.unusedVariables false
theorem tidy_len_lt {a b : List Int} (ha : Wd a) (hb : Wd b) (ht : Tidy b) (h : a.length < b.length) : wv a < wv b := by
  have h1 := ht.wsize hb (by intro e; subst e; simp at h)
  have h2 := (wv_range ha).2
  have h3 := q_mono (m := a.length) (n := b.length - 1) (by omega)
  omega
theorem sign_same (b : Bool) (w : World) : Calls Tryz.prog 247 #[.bool b] w fun e w' => e = .returned (.int .i64 (bif b then -1 else 1)) ∧ w' = w :=
  (sign_any b w).mono fun _ _ h => ⟨h.1, h.2.symm⟩
/-- A call that leaves the world alone, in a drawn region behind another one. -/
theorem quiet_later {P : Program} {f : FuncId} {args : Array Value} {w : World} {k n : Nat} {v : Value} (h : Calls P f args (w.drewN (k + n)) fun e w' => e = .returned v ∧ w' = w.drewN (k + n)) :
    Calls P f args (w.drewN (k + n)) fun e w' => e = .returned v ∧ ∃ m, w' = w.drewN (k + m) := h.mono fun _ _ q => ⟨q.1, n, q.2⟩
set_option maxHeartbeats 1000000 in
theorem cmp_any (u v : Value) (a b : List Int) (w : World) (hu : WList w u a) (hv : WList w v b) :
    Calls Tryz.prog 234 #[u, v] w fun e w' => e = .returned (.int .i64 (cmpI (wv a) (wv b))) ∧ ∃ n, w' = w.drewN n := by
  obtain ⟨p, c, rfl⟩ := hu.shape
  obtain ⟨q, d, rfl⟩ := hv.shape
  have HU := Lib.hid hu
  have HV := Lib.hid hv
  have HS := Lib.hid (sig_any p a.length c a w hu.1 hu.2.2)
  have HT := Lib.hid (sig_any q b.length d b w hv.1 hv.2.2)
  clear hu hv
  go_enter Tryz.func234, Tryz.ntmps234
  go_wp2_with fail
  refine (HS.out).mono ?_; rintro e w' ⟨u1, n, rfl, hc, rfl⟩
  go_wp2_with fail
  refine (HT.out).mono ?_; rintro e w' ⟨v1, m, rfl, hd, rfl⟩
  obtain ⟨hx, ex, tx⟩ := hc.wlist HU.out
  obtain ⟨hy, ey, ty⟩ := hd.wlist HV.out
  generalize a.take n = x at *
  generalize b.take m = y at *
  have EX := Lib.hid (And.intro ex ey)
  have TX := Lib.hid (And.intro tx ty)
  clear HU HV HS HT hc hd ex ey tx ty
  obtain ⟨p1, c1, rfl⟩ := hx.shape
  obtain ⟨q1, d1, rfl⟩ := hy.shape
  have HX := Lib.hid hx
  have HY := Lib.hid hy
  have lx : x.length ≤ 1099511627776 := hx.2.2
  have ly : y.length ≤ 1099511627776 := hy.2.2
  clear hx hy
  rcases Nat.lt_trichotomy x.length y.length with hlt | heq | hgt
  · have hr := Lib.hid (cmpI_lt (tidy_len_lt HX.out.2.1 HY.out.2.1 TX.out.2 hlt))
    rw [EX.out.1, EX.out.2] at hr
    have hne : ¬ x.length = y.length := by omega
    go_wp2_with (go_at_call 247; refine (sign_any _ _).mono ?_; rintro e w' ⟨rfl, rfl⟩)
    go_ret
    exact ⟨ret_int (by rw [hr.out]), 0, rfl⟩
  · obtain ⟨L, hL⟩ : ∃ L, x.length = L := ⟨_, rfl⟩
    have hL2 : y.length = L := by omega
    have HL := Lib.hid (And.intro hL hL2)
    rw [hL] at HX
    rw [hL2] at HY
    rw [hL, hL2]
    clear heq hL2 ly
    rw [hL] at lx
    clear hL
    go_wp2_with fail
    go_loopw [24] (fun i wr => ∃ (k m nd : Nat), Hid (L = k + m) ∧ k ≤ L ∧ i = .int .i64 k ∧ Hid (∀ j, m ≤ j → x.getD j 0 = y.getD j 0) ∧ wr = w.drewN nd) (fun i _ => L - (intOf i).toNat)
    case atStart => exact ⟨0, L, 0, Lib.hid (by omega), by omega, rfl, Lib.hid (same_past (by have := HL.out; omega) (by have := HL.out; omega)), rfl⟩
    case round =>
      obtain ⟨k, m, nd, hm, hk, rfl, hs, rfl⟩ := hrel
      by_cases hlt : k < L
      · obtain ⟨n, rfl⟩ : ∃ n, m = n + 1 := ⟨m - 1, by have := hm.out; omega⟩
        obtain ⟨b1, o1, hp1, hb1, hc1⟩ := HX.out.1.cell (i := n) (by have := hm.out; have := HL.out; omega)
        obtain ⟨b2, o2, hp2, hb2, hc2⟩ := HY.out.1.cell (i := n) (by have := hm.out; have := HL.out; omega)
        subst hp1 hp2
        have hi0 : (0 : Int) ≤ L - 1 - k := by omega
        have hi1 : (L : Int) - 1 - k < L := by omega
        have hiN : ((L : Int) - 1 - k).toNat = n := by have := hm.out; omega
        have hC := Lib.hid (fun (s t : Int) (hx : x.getD n 0 = s) (hy : y.getD n 0 = t) (hlt : s < t) => wv_lt_of_digit HX.out.2.1 HY.out.2.1 (n := n) hs.out (by rw [hx, hy]; exact hlt))
        have hD := Lib.hid (fun (s t : Int) (hx : x.getD n 0 = s) (hy : y.getD n 0 = t) (hlt : t < s) => wv_lt_of_digit HY.out.2.1 HX.out.2.1 (n := n) (fun i hi => (hs.out i hi).symm) (by rw [hx, hy]; exact hlt))
        have hE := Lib.hid (fun (s t : Int) (hx : x.getD n 0 = s) (hy : y.getD n 0 = t) (he : s = t) => same_more hs.out (hx.trans (he.trans hy.symm)))
        rw [EX.out.1, EX.out.2] at hC
        rw [EX.out.1, EX.out.2] at hD
        generalize x.getD n 0 = s at *
        generalize y.getD n 0 = t at *
        have hC2 := Lib.hid (hC.out s t rfl rfl)
        have hD2 := Lib.hid (hD.out s t rfl rfl)
        have hE2 := Lib.hid (hE.out s t rfl rfl)
        clear hC hD hE hs HX HY
        rcases Int.lt_trichotomy s t with h | rfl | h
        · have hne : ¬ s = t := by omega
          go_wp2_with fail
          go_quiet (fail)
          go_wp2_with fail
          go_quiet ((go_at_call 247; exact quiet_later (sign_same _ _)))
          go_wp2_with fail
          go_ret
          exact ⟨ret_int (by simp [cmpI_lt (hC2.out h)]), by simp only [World.drewN_drewN]; exact ⟨_, rfl⟩⟩
        · go_wp2_with fail
          go_quiet (fail)
          go_wp2_with fail
          go_roundw
          case rel => exact ⟨k + 1, n, _, Lib.hid (by have := hm.out; omega), by omega, by go_num, Lib.hid (hE2.out (by trivial)), rfl⟩
          case measure => simp [intOf]; omega
        · have hne : ¬ s = t := by omega
          go_wp2_with fail
          go_quiet (fail)
          go_wp2_with fail
          go_quiet ((go_at_call 247; exact quiet_later (sign_same _ _)))
          go_wp2_with fail
          go_ret
          exact ⟨ret_int (by rw [cmpI_gt (hD2.out h), decide_eq_false (by omega)]; rfl), by simp only [World.drewN_drewN]; exact ⟨_, rfl⟩⟩
      · have hz := Lib.hid (wv_eq_of_same (fun j => hs.out j (by have := hm.out; omega)))
        rw [EX.out.1, EX.out.2] at hz
        clear hs
        go_wp2_with fail
        go_ret
        exact ⟨ret_int (cmpI_eq hz.out).symm, _, rfl⟩
  · have hr := Lib.hid (cmpI_gt (tidy_len_lt HY.out.2.1 HX.out.2.1 TX.out.1 hgt))
    rw [EX.out.1, EX.out.2] at hr
    have hne : ¬ x.length = y.length := by omega
    go_wp2_with (go_at_call 247; refine (sign_any _ _).mono ?_; rintro e w' ⟨rfl, rfl⟩)
    go_ret
    exact ⟨ret_int (by rw [hr.out, decide_eq_false (by omega)]; rfl), 0, rfl⟩
/-- How many bits: of a trim list the number of those of its last word, and 32 for each of the others. -/
def bitsZ (z : Int) : Nat := if z = 0 then 0 else Nat.log2 z.toNat + 1
theorem bitLenAux_log : ∀ f x : Nat, 0 < x → x < 2 ^ f → Lib.bitLenAux f x = Nat.log2 x + 1
  | 0, x, h0, h => by simp at h; omega
  | f + 1, x, h0, h => by
    have hx : x ≠ 0 := by omega
    simp only [Lib.bitLenAux, if_neg hx]
    by_cases h1 : x = 1
    · subst h1
      have : Lib.bitLenAux f (1 / 2) = 0 := by cases f <;> simp [Lib.bitLenAux]
      rw [this]; decide
    · rw [bitLenAux_log f (x / 2) (by omega) (by rw [Nat.pow_succ] at h; omega), Nat.log2_def x, if_pos (by omega)]; omega
theorem bitLen_log (s : Nat) (h0 : 0 < s) (h : s < 18446744073709551616) : Lib.bitLen s = Nat.log2 s + 1 := bitLenAux_log 64 s h0 h
theorem bitsZ_words {x : List Int} (hd : Wd x) {n : Nat} (hl : x.length = n + 1) (h0 : 0 < x.getD n 0) : (n : Int) * 32 + (Lib.bitLen (x.getD n 0).toNat : Int) = bitsZ (wv x) := by
  have h1 := bitLen_log (x.getD n 0).toNat (by omega) (by have := (hd.getD n).2; omega)
  have h2 : wv x = wvN x n + x.getD n 0 * 4294967296 ^ n := by rw [wv, hl]; rfl
  have h3 := wvN_range hd n
  have hp := q_pos n
  have h4 : 0 < x.getD n 0 * 4294967296 ^ n := Int.mul_pos h0 hp
  have hz : wv x ≠ 0 := by omega
  rw [h1, bitsZ, if_neg hz]
  have hb := Nat.log2_lt (n := (x.getD n 0).toNat) (k := Nat.log2 (x.getD n 0).toNat + 1) (by omega)
  have ha := Nat.log2_self_le (n := (x.getD n 0).toNat) (by omega)
  have hb := hb.1 (by omega)
  generalize hs : x.getD n 0 = s at *
  obtain ⟨S, rfl⟩ := Int.eq_ofNat_of_zero_le (Int.le_of_lt h0)
  obtain ⟨R, hR⟩ := Int.eq_ofNat_of_zero_le h3.1
  rw [hR] at h2 h3
  simp only [Int.toNat_natCast] at *
  have hw : (wv x).toNat = R + S * 2 ^ (32 * n) := by
    have e : (4294967296 : Int) ^ n = ((2 ^ (32 * n) : Nat) : Int) := by rw [Nat.pow_mul]; simp
    rw [h2, e, ← Int.natCast_mul, ← Int.natCast_add, Int.toNat_natCast]
  have hR2 : R < 2 ^ (32 * n) := by
    have e : (4294967296 : Int) ^ n = ((2 ^ (32 * n) : Nat) : Int) := by rw [Nat.pow_mul]; simp
    rw [e] at h3; omega
  have key : Nat.log2 (R + S * 2 ^ (32 * n)) = 32 * n + Nat.log2 S := by
    have hS0 : S ≠ 0 := by omega
    have hP : 0 < 2 ^ (32 * n) := Nat.two_pow_pos _
    have hne : R + S * 2 ^ (32 * n) ≠ 0 := by
      have : 0 < S * 2 ^ (32 * n) := Nat.mul_pos (by omega) hP
      omega
    rw [Nat.log2_eq_iff hne, Nat.pow_add, Nat.pow_add, Nat.pow_add, Nat.pow_one]
    rw [Nat.pow_succ] at hb
    have k1 : 2 ^ (32 * n) * 2 ^ Nat.log2 S ≤ 2 ^ (32 * n) * S := Nat.mul_le_mul_left _ ha
    have k2 : 2 ^ (32 * n) * (S + 1) ≤ 2 ^ (32 * n) * (2 ^ Nat.log2 S * 2) := Nat.mul_le_mul_left _ (by omega)
    rw [Nat.mul_comm S, Nat.mul_assoc]
    rw [Nat.mul_add] at k2
    omega
  rw [hw, key]; omega
set_option maxHeartbeats 1000000 in
theorem bits_any (u : Value) (a : List Int) (w : World) (hu : WList w u a) :
    Calls Tryz.prog 176 #[u] w fun e w' => e = .returned (.int .i64 (bitsZ (wv a))) ∧ w = w' := by
  obtain ⟨p, c, rfl⟩ := hu.shape
  have HU := Lib.hid hu
  have HS := Lib.hid (sig_any p a.length c a w hu.1 hu.2.2)
  clear hu
  go_enter Tryz.func176, Tryz.ntmps176
  go_wp2_with fail
  refine (HS.out).mono ?_; rintro e w' ⟨u1, n, rfl, hc, rfl⟩
  obtain ⟨hx, ex, tx⟩ := hc.wlist HU.out
  generalize a.take n = x at *
  have EX := Lib.hid ex
  have TX := Lib.hid tx
  clear HU HS hc ex tx
  obtain ⟨p1, c1, rfl⟩ := hx.shape
  have HX := Lib.hid hx
  have lx : x.length ≤ 1099511627776 := hx.2.2
  clear hx
  by_cases h0 : x.length = 0
  · have hz := Lib.hid ((TX.out.wzero HX.out.2.1).2 (List.length_eq_zero_iff.1 h0))
    rw [EX.out] at hz
    go_wp2_with fail
    go_ret
    exact ⟨ret_int (by rw [hz.out]; rfl), rfl⟩
  · obtain ⟨n, hn⟩ : ∃ n, x.length = n + 1 := ⟨x.length - 1, by omega⟩
    have hp : 0 < x.getD n 0 := by
      have h1 := TX.out.resolve_left (by intro e; subst e; simp at hn)
      rw [hn, Nat.add_sub_cancel] at h1
      have h2 := HX.out.2.1.getD n
      omega
    have hq := (HX.out.2.1.getD n).2
    have hB := Lib.hid (bitsZ_words HX.out.2.1 hn hp)
    rw [EX.out] at hB
    obtain ⟨b1, o1, hp1, hb1, hc1⟩ := HX.out.1.cell (i := n) (by omega)
    subst hp1
    rw [hn] at HX lx h0
    rw [hn]
    clear hn h0 hb1
    generalize x.getD n 0 = s at *
    have hL := Lib.hid (len32_any s w (by omega) hq)
    have hle : Lib.bitLen s.toNat ≤ 32 := Lib.bitLen_le _ 32 (by omega) (by omega)
    generalize Lib.bitLen s.toNat = l at *
    go_wp2_with fail
    refine (hL.out).mono ?_; rintro e w' ⟨rfl, rfl⟩
    go_wp2_with fail
    go_ret
    exact ⟨ret_int hB.out, rfl⟩
set_option maxRecDepth 100000
open Go.RowKit
set_option linter.unusedVariables false
def smallB (z : Int) : Bool := decide (z < 18446744073709551616)
theorem smallB_yes {z : Int} (h : z < 18446744073709551616) : smallB z = true := by simp [smallB, h]
theorem smallB_no {z : Int} (h : 18446744073709551616 ≤ z) : smallB z = false := by simp [smallB]; omega
theorem ret_ub {a b : Int} {x y : Bool} (h : a = b) (g : x = y) : Ending.returned (.tuple #[.int .u64 a, .bool x]) = .returned (.tuple #[.int .u64 b, .bool y]) := by rw [h, g]
theorem uint_round {x : List Int} {k : Nat} {z s : Int} (hk : k = 0 ∨ k = 1) (hz : 0 ≤ z ∧ z < 4294967296 ^ k) (s0 : 0 ≤ s) (s1 : s ≤ 4294967295) (hs : z + s * 4294967296 ^ k = wvN x (k + 1)) :
    bits BinOp.or IntKind.u64 z (IntKind.u64.wrap (s * 2 ^ (k * 32))) = wvN x (k + 1) := by
  rw [← hs]
  rcases hk with rfl | rfl
  · have h0 : z = 0 := by have := hz.2; simp at this; omega
    subst h0
    obtain ⟨S, rfl⟩ := Int.eq_ofNat_of_zero_le s0
    have := bits_or_u64_nat 0 S (by omega) (by omega)
    simp only [Nat.zero_or] at this
    simp [IntKind.wrap_u64]
    rw [Int.emod_eq_of_lt (by omega) (by omega)]
    simpa using this
  · have e : (2 : Int) ^ (1 * 32) = 4294967296 := by decide
    rw [e, IntKind.wrap_u64, Int.emod_eq_of_lt (by omega) (by omega)]
    have := hz.2
    simp only [Int.pow_one] at this ⊢
    rw [or_words' s z s0 s1 hz.1 (by omega)]
    omega
set_option maxHeartbeats 1000000 in
theorem uint_any (u : Value) (a : List Int) (w : World) (hu : WList w u a) :
    Calls Tryz.prog 210 #[u] w fun e w' => e = .returned (.tuple #[.int .u64 (bif smallB (wv a) then wv a else 0), .bool (smallB (wv a))]) ∧ w = w' := by
  obtain ⟨p, c, rfl⟩ := hu.shape
  have HU := Lib.hid hu
  have HS := Lib.hid (sig_any p a.length c a w hu.1 hu.2.2)
  clear hu
  go_enter Tryz.func210, Tryz.ntmps210
  go_wp2_with fail
  refine (HS.out).mono ?_; rintro e w' ⟨u1, n, rfl, hc, rfl⟩
  obtain ⟨hx, ex, tx⟩ := hc.wlist HU.out
  generalize a.take n = x at *
  have EX := Lib.hid ex
  have TX := Lib.hid tx
  clear HU HS hc ex tx
  obtain ⟨p1, c1, rfl⟩ := hx.shape
  have HX := Lib.hid hx
  have lx : x.length ≤ 1099511627776 := hx.2.2
  clear hx
  by_cases h2 : 2 < x.length
  · have hz : 18446744073709551616 ≤ wv a := by
      have h1 := TX.out.wsize HX.out.2.1 (by intro e; subst e; simp at h2)
      have h3 := q_mono (m := 2) (n := x.length - 1) (by omega)
      have e : (4294967296 : Int) ^ 2 = 18446744073709551616 := by decide
      rw [← EX.out]; omega
    have HZ := Lib.hid (smallB_no hz)
    clear hz
    go_wp2_with fail
    go_ret2
    exact ⟨ret_ub (by rw [HZ.out]; rfl) (by rw [HZ.out]), rfl⟩
  · have hz : wv a < 18446744073709551616 := by
      have h1 := (wv_range HX.out.2.1).2
      have h3 := q_mono (m := x.length) (n := 2) (by omega)
      have e : (4294967296 : Int) ^ 2 = 18446744073709551616 := by decide
      rw [← EX.out]; omega
    have HZ := Lib.hid (smallB_yes hz)
    clear hz
    go_wp2_with fail
    go_loop [4, 13] (fun y i => ∃ (k : Nat) (z : Int), k ≤ x.length ∧ i = .int .i64 k ∧ y = .int .u64 z ∧ Hid (z = wvN x k)) (fun _ i => x.length - (intOf i).toNat)
    case atStart => exact ⟨0, 0, Nat.zero_le _, rfl, rfl, Lib.hid rfl⟩
    case round =>
      obtain ⟨k, z, hk, rfl, rfl, hz⟩ := hrel
      by_cases hlt : k < x.length
      · obtain ⟨b1, o1, hp1, hb1, hc1⟩ := HX.out.1.cell (i := k) hlt
        subst hp1
        have hd := HX.out.2.1.getD k
        have hs : Hid (∀ s : Int, x.getD k 0 = s → z + s * 4294967296 ^ k = wvN x (k + 1)) := Lib.hid (fun s e => by rw [hz.out, wvN, e])
        have hzr := wvN_range HX.out.2.1 k
        rw [← hz.out] at hzr
        generalize x.getD k 0 = s at *
        have hs2 := Lib.hid (hs.out s rfl)
        clear hs hz
        have hk2 : k = 0 ∨ k = 1 := by omega
        have hk3 : (k : Int) ≤ 1 := by omega
        have hH := Lib.hid hk2
        have hZ := Lib.hid hzr
        clear hk2 hzr
        obtain ⟨hd0, hd1⟩ := hd
        go_wp2_with fail
        go_round
        case rel => exact ⟨k + 1, _, by omega, by go_num, rfl, Lib.hid (uint_round hH.out hZ.out hd0 hd1 hs2.out)⟩
        case measure => simp [intOf]; omega
      · have hE := Lib.hid (hz.out.trans (wvN_past x (by omega)))
        rw [EX.out] at hE
        clear hz
        go_wp2_with fail
        go_ret2
        exact ⟨ret_ub (by rw [HZ.out, hE.out]; rfl) (by rw [HZ.out]), rfl⟩
theorem own_words2 (x y : Int) (w : World) (B : Nat) (hB : B ≤ w.heap.size) : WRow (w.alloc (.cells #[.int .u32 x, .int .u32 y] 27)) B w.heap.size 2 [x, y] :=
  ⟨by simp, .inr ⟨w.heap.size, 2, #[.int .u32 x, .int .u32 y], rfl, hB, heap_alloc_new w _, by simp, by unfold maxLen; omega, by simp, by simp⟩⟩
set_option maxHeartbeats 1000000 in
theorem of_any' (x : Int) (h0 : 0 ≤ x) (h1 : x ≤ 18446744073709551615) (w : World) :
    Calls Tryz.prog 97 #[.int .u64 x] w (Fresh w x 2) := by
  have hR := own_words2 (x % 4294967296) (x / 4294967296) w w.heap.size (Nat.le_refl _)
  have hd : Wd [x % 4294967296, x / 4294967296] := by
    intro y hy; simp at hy; omega
  have hz : wv [x % 4294967296, x / 4294967296] = x := by simp [wv, wvN]; omega
  have HL := Lib.hid (hR.wlist hd (by simp))
  have HS := Lib.hid (sig_any _ _ 2 _ _ HL.out.1 (by simp))
  have HR := Lib.hid hR
  have HZ := Lib.hid hz
  clear hR hd hz
  go_enter Tryz.func97, Tryz.ntmps97
  go_wp2_with fail
  refine (HS.out).mono ?_; rintro e w' ⟨u1, n, rfl, hc, rfl⟩
  have hw := hc.wlist HL.out
  have ho := hc.own HR.out
  go_wp2_with fail
  go_ret
  exact ⟨_, _, rfl, ho, hw.1.2.1, hw.2.2, hw.2.1.trans HZ.out, by rw [List.length_take]; simp; omega, below_one w _⟩
end Go.Proofs.YtigikgphipebiaaGreatDoor
