/- What Read of package nat returns. -/
import Derived.Test.YtpfcacjcikhamaaDoorNats
import Derived.WalkSpells
namespace Go.Proofs.YtpfcacjcikhamaaDoor
set_option maxRecDepth 100000
open Go.RowKit
set_option linter.unusedVariables false
/-- The number of decimal digits, the highest first. -/
def decI (l : List UInt8) : Int := l.foldl (fun z c => z * 10 + ((c.toNat : Int) - 48)) 0
def isDig (c : UInt8) : Bool := decide (48 ≤ c.toNat) && decide (c.toNat ≤ 57)
def readable (l : List UInt8) : Bool := !l.isEmpty && decide (l.length ≤ 1000) && (!(l.head? == some 48) || l == [48]) && l.all isDig
theorem decI_snoc (l : List UInt8) (c : UInt8) : decI (l ++ [c]) = decI l * 10 + ((c.toNat : Int) - 48) := by simp [decI]
theorem isDig_iff {c : UInt8} : isDig c = true ↔ 48 ≤ c.toNat ∧ c.toNat ≤ 57 := by simp [isDig]
theorem all_nonneg {l : List UInt8} (h : l.all isDig = true) : 0 ≤ decI l := by
  have key : ∀ (l : List UInt8) (z : Int), 0 ≤ z → l.all isDig = true → 0 ≤ l.foldl (fun z c => z * 10 + ((c.toNat : Int) - 48)) z := by
    intro l
    induction l with
    | nil => intro z h _; exact h
    | cons c l ih =>
      intro z h h2
      rw [List.all_cons, Bool.and_eq_true, isDig_iff] at h2
      rw [List.foldl_cons]
      exact ih _ (by show 0 ≤ z * 10 + ((c.toNat : Int) - 48); omega) h2.2
  exact key l 0 (by omega) h
theorem bytes_snoc (s : ByteArray) (k : Nat) (h : k < s.size) : s.data.toList.take (k + 1) = s.data.toList.take k ++ [s[k]] := by
  rw [List.take_succ_eq_append_getElem (by simpa using h)]; rfl
def ReadPost (l : List UInt8) (w : World) (e : Ending) (w' : World) : Prop :=
  (readable l = true ∧ ∃ v, e = .returned (.tuple #[v, .bool true]) ∧ IsNat w' v (decI l) ∧ Below w.heap.size w w') ∨ (readable l = false ∧ NoneOk w e w')
theorem bad_in {s : ByteArray} {k : Nat} (hk : k < s.size) (h : isDig s[k] = false) : readable s.data.toList = false := by
  have : s.data.toList.all isDig = false := by
    rw [List.all_eq_false]
    exact ⟨s[k], by simp [ByteArray.getElem_eq_getElem_data], by simp [h]⟩
  simp [readable, this]
def GoodHead (l : List UInt8) : Prop := (!l.isEmpty && decide (l.length ≤ 1000) && (!(l.head? == some 48) || l == [48])) = true
theorem readable_of {l : List UInt8} (h : GoodHead l) (ha : l.all isDig = true) : readable l = true := by
  unfold GoodHead at h
  simp only [readable, h, ha, Bool.and_true]
set_option maxHeartbeats 2000000 in
theorem read_any (s : ByteArray) (w : World) (hs : s.size ≤ maxLen) :
    Calls Tryd.prog 27 #[.string s] w (ReadPost s.data.toList w) := by
  have htl := ByteArray.toList_eq s
  have hsz : s.data.toList.length = s.size := by simp
  unfold maxLen at hs
  by_cases hA : s.size = 0
  · have h0 : s.data.toList = [] := List.length_eq_zero_iff.1 (by omega)
    have hR : Hid (readable s.data.toList = false) := Lib.hid (by rw [h0]; rfl)
    rw [h0] at htl
    clear hsz h0
    go_enter Tryd.func27, Tryd.ntmps27
    go_wp2_with fail
    go_ret2
    exact .inr ⟨hR.out, rfl, Below.refl _ _⟩
  · have h1 : ¬ s.toList = [] := by rw [htl]; intro e; rw [e] at hsz; simp at hsz; omega
    have h2 : s.toList.isEmpty = false := by cases e : s.toList with | nil => exact absurd e h1 | cons _ _ => rfl
    by_cases hB : 1000 < s.size
    · have hR : Hid (readable s.data.toList = false) := Lib.hid (by simp [readable]; intro _ h; omega)
      have hB' : (1000 : Int) < (s.size : Int) := by omega
      clear hsz htl
      go_enter Tryd.func27, Tryd.ntmps27
      go_wp2_with fail
      go_ret2
      exact .inr ⟨hR.out, rfl, Below.refl _ _⟩
    · have hB' : (s.size : Int) ≤ 1000 := by omega
      have hp : 0 < s.size := by omega
      have hhead : s.data.toList.head? = some s[0] := by
        rw [List.head?_eq_getElem?]; simp [hp, ByteArray.getElem_eq_getElem_data]
      by_cases hC : s[0].toNat = 48 ∧ s.toList ≠ [48]
      · have hR : Hid (readable s.data.toList = false) := Lib.hid (by
          have e : s[0] = 48 := UInt8.toNat_inj.1 hC.1
          have e2 : (s.data.toList == [48]) = false := by rw [← htl]; simpa using hC.2
          simp [readable, hhead, e, e2])
        have hC1 : (s[0].toNat : Int) = 48 := by omega
        have hC2 : (!s.toList == [48]) = true := by simpa using hC.2
        clear hsz htl hC hhead
        go_enter Tryd.func27, Tryd.ntmps27
        go_wp2_with fail
        go_ret2
        exact .inr ⟨hR.out, rfl, Below.refl _ _⟩
      · have hG : Hid (GoodHead s.data.toList) := Lib.hid (by
          have e1 : s.data.toList.isEmpty = false := by rw [← htl]; exact h2
          have e3 : (!(s.data.toList.head? == some 48) || s.data.toList == [48]) = true := by
            rw [hhead]
            by_cases e : s[0] = 48
            · have : s.toList = [48] := by
                by_cases q : s.toList = [48]
                · exact q
                · exact absurd ⟨by rw [e]; rfl, q⟩ hC
              rw [← htl, this]; simp
            · simp [e]
          show (!s.data.toList.isEmpty && decide (s.data.toList.length ≤ 1000) && _) = true
          rw [e1, e3, decide_eq_true (by omega)]; rfl)
        have hD : (((s[0].toNat : Int) == 48) = false) ∨ ((s[0].toNat : Int) = 48 ∧ (!s.toList == [48]) = false) := by
          by_cases q : s[0].toNat = 48
          · refine .inr ⟨by omega, ?_⟩
            by_cases q2 : s.toList = [48]
            · rw [q2]; rfl
            · exact absurd ⟨q, q2⟩ hC
          · exact .inl (by simp; omega)
        have hB'' : decide ((1000 : Int) < (s.size : Int)) = false := by simp; omega
        have HSz := Lib.hid hsz
        clear hsz htl hC hhead
        rcases hD with hD | ⟨hD, hD2⟩
        all_goals
          go_enter Tryd.func27, Tryd.ntmps27
          go_wp2_with fail
          clear hD
          go_loopw [4, 24] (fun nv i wr => ∃ (k : Nat) (v : Value) (a : List Int), k ≤ s.size ∧ i = .int .i64 k ∧ v = nv ∧ a.length ≤ k ∧ Hid (wr.ownsRow w.heap.size 31 1 v a.length (a.map (Value.int .u32))) ∧ Hid (Wd a ∧ Tidy a ∧ wv a = decI (s.data.toList.take k) ∧ (s.data.toList.take k).all isDig = true) ∧ Hid (Below w.heap.size w wr)) (fun _ i _ => s.size - (intOf i).toNat)
          case atStart => exact ⟨0, _, [], Nat.zero_le _, rfl, rfl, by simp, Lib.hid (World.ownsRow_nil _ _ _ _), Lib.hid ⟨Wd.nil, .inl rfl, rfl, rfl⟩, Lib.hid (Below.refl _ _)⟩
          case round =>
            obtain ⟨k, v, a, hk, rfl, rfl, hal, hown, hA2, hbw⟩ := hrel
            by_cases hlt : k < s.size
            · have hsn := bytes_snoc s k hlt
              have hbad := Lib.hid (fun h => bad_in hlt h)
              have hnx := Lib.hid (fun (h : isDig s[k] = true) => And.intro (by rw [hsn, decI_snoc] : decI (s.data.toList.take (k + 1)) = decI (s.data.toList.take k) * 10 + ((s[k].toNat : Int) - 48)) (by rw [hsn, List.all_append, hA2.out.2.2.2]; simp [h] : (s.data.toList.take (k + 1)).all isDig = true))
              have hcl : s[k].toNat < 256 := UInt8.toNat_lt _
              clear hsn
              by_cases hb1 : s[k].toNat < 48
              · have hb : isDig s[k] = false := by simp [isDig]; omega
                have hN := Lib.hid (hbad.out hb)
                have hb2 : (s[k].toNat : Int) < 48 := by omega
                clear hbad hnx hb
                go_wp2_with fail
                go_ret2
                exact .inr ⟨hN.out, rfl, hbw.out⟩
              · by_cases hb2 : 57 < s[k].toNat
                · have hb : isDig s[k] = false := by simp [isDig]; omega
                  have hN := Lib.hid (hbad.out hb)
                  have hb3 : 48 ≤ (s[k].toNat : Int) := by omega
                  have hb4 : 57 < (s[k].toNat : Int) := by omega
                  clear hbad hnx hb
                  go_wp2_with fail
                  go_ret2
                  exact .inr ⟨hN.out, rfl, hbw.out⟩
                · have hb : isDig s[k] = true := by simp [isDig]; omega
                  have hN := Lib.hid (hnx.out hb)
                  have hb3 : 48 ≤ (s[k].toNat : Int) := by omega
                  have hb4 : (s[k].toNat : Int) ≤ 57 := by omega
                  have HT := Lib.hid (ten_any w.heap.size v a ((s[k].toNat : Int) - 48) wr hbw.out.size hown.out hA2.out.1 hA2.out.2.1 (by omega) (by omega) (by omega))
                  clear hbad hnx hb hb1 hb2
                  go_wp2_with fail
                  refine (HT.out).mono ?_; rintro e w2 ⟨v2, a2, rfl, q1, q2, q3, q4, q5, q6⟩
                  have hX := Lib.hid (And.intro q2 (And.intro q3 (And.intro (q4.trans (by rw [hN.out.1, hA2.out.2.2.1]) : wv a2 = decI (s.data.toList.take (k + 1))) hN.out.2)))
                  have hB2 := Lib.hid (hbw.out.trans (q6.mono (Nat.le_refl _)))
                  have q1 := Lib.hid q1
                  clear q2 q3 q4 q6
                  go_wp2_with fail
                  go_roundw
                  case rel => exact ⟨k + 1, v2, a2, by omega, by go_num, rfl, by omega, q1, hX, hB2⟩
                  case measure => simp [intOf]; omega
            · have ht : s.data.toList.take k = s.data.toList := List.take_of_length_le (by have := HSz.out; omega)
              rw [ht] at hA2
              have hR := Lib.hid (readable_of hG.out hA2.out.2.2.2)
              clear ht
              go_wp2_with fail
              go_ret2
              exact .inl ⟨hR.out, _, rfl, ⟨a, own_wlist hown.out hA2.out.1 (by omega), hA2.out.2.1, hA2.out.2.2.1⟩, hbw.out⟩
end Go.Proofs.YtpfcacjcikhamaaDoor
