/- What the lower calls of package nat return: contracts over the translation. -/
import Derived.Test.YtpfcacjcikhamaaDoorProg
import Derived.Test.YtpfcacjcikhamaaDoorWords
import Derived.Test.YtpfcacjcikhamaaDoorRefc
import Derived.WalkKit
import Derived.WalkSpells
import Derived.WalkLawsBesides
import Derived.WalkSmall
import Derived.Deep.QuietTactic
import Derived.BigQuiet
import Derived.Lib.Hide
namespace Go.Proofs.YtpfcacjcikhamaaDoor
set_option maxRecDepth 100000
open Go.RowKit
set_option linter.unusedVariables false
/-- What is left of a list of words without the noughts at its end. -/
def Cut (ap : Option Addr) (cap : Nat) (a : List Int) (v : Value) (n : Nat) : Prop :=
  (n = 0 ∧ v = .slice none 0 0 ∨ 0 < n ∧ v = .slice ap n cap) ∧ n ≤ a.length ∧ (∀ j, n ≤ j → a.getD j 0 = 0) ∧ Tidy (a.take n)
def CutPost (ap : Option Addr) (cap : Nat) (a : List Int) (w : World) (e : Ending) (w' : World) : Prop := ∃ v n, e = .returned v ∧ Cut ap cap a v n ∧ w = w'
theorem cut_none {ap : Option Addr} {cap : Nat} {a : List Int} (h : ∀ j, 0 ≤ j → a.getD j 0 = 0) : Cut ap cap a (.slice none 0 0) 0 :=
  ⟨.inl ⟨rfl, rfl⟩, Nat.zero_le _, h, .inl rfl⟩
theorem cut_some {ap : Option Addr} {cap : Nat} {a : List Int} {m : Nat} (hm : m < a.length) (h : ∀ j, m + 1 ≤ j → a.getD j 0 = 0) (h0 : a.getD m 0 ≠ 0) : Cut ap cap a (.slice ap (m + 1) cap) (m + 1) :=
  ⟨.inr ⟨by omega, rfl⟩, hm, h, tidy_take (by omega) (.inr h0)⟩
theorem zeros_step {a : List Int} {m : Nat} (h : ∀ j, m + 1 ≤ j → a.getD j 0 = 0) (h0 : a.getD m 0 = 0) : ∀ j, m ≤ j → a.getD j 0 = 0 := fun j hj => by
  by_cases e : j = m
  · rw [e]; exact h0
  · exact h j (by omega)
set_option maxHeartbeats 1000000 in
theorem sig_any (ap : Option Addr) (L cap : Nat) (a : List Int) (w : World) (hv : Ints .u32 w (.slice ap L cap) a) (hl : L ≤ 1099511627776) :
    Calls Tryd.prog 54 #[.slice ap L cap] w (CutPost ap cap a w) := by
  have hL : a.length = L := by obtain ⟨_, _, e, _⟩ := hv; simp at e; exact e.2.1.symm
  have hcap : L ≤ cap := by obtain ⟨_, _, e, h, _⟩ := hv; simp at e; omega
  have HV := Lib.hid hv
  have HL := Lib.hid hL
  clear hv hL
  go_enter Tryd.func54, Tryd.ntmps54
  go_wp2_with fail
  go_loop [7] (fun i => ∃ (k m : Nat), Hid (L = k + m) ∧ k ≤ L ∧ i = .int .i64 k ∧ Hid (∀ j, m ≤ j → a.getD j 0 = 0)) (fun i => L - (intOf i).toNat)
  case atStart => exact ⟨0, L, Lib.hid (by omega), by omega, rfl, Lib.hid (fun j hj => getD_past (by have := HL.out; omega))⟩
  case round =>
    obtain ⟨k, m, hm, hk, rfl, hz⟩ := hrel
    by_cases hlt : k < L
    · obtain ⟨n, rfl⟩ : ∃ n, m = n + 1 := ⟨m - 1, by have := hm.out; omega⟩
      obtain ⟨b, off, hap, hb, hcell⟩ := HV.out.cell (i := n) (by have := hm.out; have := HL.out; omega)
      subst hap
      have hi0 : (0 : Int) ≤ L - k - 1 := by omega
      have hi1 : (L : Int) - k - 1 < L := by omega
      have hiN : ((L : Int) - k - 1).toNat = n := by have := hm.out; omega
      have hiM : ((L : Int) - k).toNat = n + 1 := by have := hm.out; omega
      have hX := Lib.hid (fun (x : Int) (hx : a.getD n 0 = x) (e : x = 0) => zeros_step hz.out (by rw [hx, e]))
      have hY := Lib.hid (fun (x : Int) (hx : a.getD n 0 = x) (e : x ≠ 0) => (cut_some (ap := some ⟨b, off, none⟩) (cap := cap) (m := n) (by have := hm.out; have := HL.out; omega) hz.out (by rw [hx]; exact e)))
      generalize hx : a.getD n 0 = x at *
      have hX2 := Lib.hid (hX.out x rfl)
      have hY2 := Lib.hid (hY.out x rfl)
      clear hX hY hx hz
      by_cases h0 : x = 0
      · subst h0
        go_wp2_with fail
        go_round
        case rel => exact ⟨k + 1, n, Lib.hid (by have := hm.out; omega), by omega, by go_num, Lib.hid (hX2.out rfl)⟩
        case measure => simp [intOf]; omega
      · go_wp2_with fail
        go_ret
        exact ⟨_, _, rfl, hY2.out h0, rfl⟩
    · have hE := Lib.hid (cut_none (ap := ap) (cap := cap) (fun j hj => hz.out j (by have := hm.out; omega)))
      clear hz
      go_wp2_with fail
      go_ret
      exact ⟨_, _, rfl, hE.out, rfl⟩
/-- A list of words read, with a bound on its length. -/
def WList (w : World) (v : Value) (a : List Int) : Prop := Ints .u32 w v a ∧ Wd a ∧ a.length ≤ 1099511627776
theorem WList.below {w w' : World} {v : Value} {a : List Int} (h : WList w v a) (hb : Below w.heap.size w w') : WList w' v a := ⟨h.1.below hb, h.2⟩
theorem WList.nil {w : World} : WList w (.slice none 0 0) [] := ⟨⟨none, 0, rfl, by simp, .inl rfl⟩, Wd.nil, by simp⟩
theorem WList.shape {w : World} {v : Value} {a : List Int} (h : WList w v a) : ∃ p c, v = .slice p a.length c := by
  obtain ⟨⟨p, c, e, _⟩, _⟩ := h; exact ⟨p, c, e⟩
theorem Cut.wlist {w : World} {ap : Option Addr} {cap n : Nat} {a : List Int} {v : Value} (h : Cut ap cap a v n) (hv : WList w (.slice ap a.length cap) a) : WList w v (a.take n) ∧ wv (a.take n) = wv a ∧ Tidy (a.take n) := by
  obtain ⟨h1, h2, h3, h4⟩ := h
  refine ⟨?_, wv_take h2 h3, h4⟩
  rcases h1 with ⟨rfl, rfl⟩ | ⟨_, rfl⟩
  · exact WList.nil
  · exact ⟨hv.1.take h2, hv.2.1.take n, by rw [List.length_take]; have := hv.2.2; omega⟩
/-- The trim list of a number. -/
def IsNat (w : World) (v : Value) (z : Int) : Prop := ∃ a, WList w v a ∧ Tidy a ∧ wv a = z
theorem IsNat.below {w w' : World} {v : Value} {z : Int} (h : IsNat w v z) (hb : Below w.heap.size w w') : IsNat w' v z := by
  obtain ⟨a, h1, h2, h3⟩ := h; exact ⟨a, h1.below hb, h2, h3⟩
set_option maxHeartbeats 400000 in
theorem sign_any (b : Bool) (w : World) : Calls Tryd.prog 57 #[.bool b] w fun e w' => e = .returned (.int .i64 (bif b then -1 else 1)) ∧ w = w' := by
  cases b
  all_goals
    go_enter Tryd.func57, Tryd.ntmps57
    go_wp2
    go_ret
    exact ⟨rfl, rfl⟩
end Go.Proofs.YtpfcacjcikhamaaDoor
