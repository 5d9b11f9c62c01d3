/- What Read of package bushelref02 returns. -/
import Derived.Test.YtpfcacjcikhamaaDoorTextr
import Derived.Deep.RegionWith
import Derived.Deep.RegionHeld3
import Derived.Deep.RegionLawGrows
namespace Go.Proofs.YtpfcacjcikhamaaDoor
set_option maxRecDepth 100000
open Go.RowKit
set_option linter.unusedVariables false
def RReadPost (l : List UInt8) (w : World) (e : Ending) (w' : World) : Prop :=
  (readable l = true ∧ ∃ v, e = .returned (.tuple #[v, .bool true]) ∧ IsNum w' v (decI l) ∧ Below w.heap.size w w') ∨ (readable l = false ∧ ∃ v, e = .returned (.tuple #[v, .bool false]) ∧ IsNum w' v 0 ∧ Below w.heap.size w w')
theorem dec_sized {l : List UInt8} (h : l.all isDig = true) (hl : l.length ≤ 1000) : Sized 1001 (decI l * 10 + 9) ∧ Sized 1001 (decI l) ∧ 0 ≤ decI l ∧ Sized 1001 (decI l * 10) := by
  have h1 := decI_range h
  have h2 : (10 : Nat) ^ l.length ≤ 1000 ^ l.length := Nat.pow_le_pow_left (by decide) _
  have e1 : ((10 ^ l.length : Nat) : Int) = (10 : Int) ^ l.length := by simp
  have e2 : ((1000 ^ l.length : Nat) : Int) = (1000 : Int) ^ l.length := by simp
  have h3 := p_mono (m := l.length) (n := 1000) hl
  have h4 := p_succ 1000
  have h5 := p_pos 1000
  unfold Sized
  omega
theorem good_head {s : ByteArray} (hp : 0 < s.size) (h1000 : s.size ≤ 1000) (h : ¬ (1 < s.size ∧ s[0].toNat = 48)) : GoodHead s.data.toList := by
  have hhead : s.data.toList.head? = some s[0] := by
    rw [List.head?_eq_getElem?]; simp [hp, ByteArray.getElem_eq_getElem_data]
  have hlen : s.data.toList.length = s.size := by simp
  cases e : s.data.toList with
  | nil => rw [e] at hlen; simp at hlen; omega
  | cons c t =>
    rw [e] at hhead hlen
    have hc : c = s[0] := by simpa using hhead
    have h2 : (!(c :: t).head? == some 48 || (c :: t) == [48]) = true := by
      by_cases q : c = 48
      · have ht : t = [] := by
          cases t with
          | nil => rfl
          | cons d u =>
            exfalso
            simp at hlen
            exact h ⟨by omega, by rw [← hc, q]; rfl⟩
        rw [q, ht]; rfl
      · simp [q]
    unfold GoodHead
    rw [h2, decide_eq_true (by omega)]; rfl
theorem bad_head {s : ByteArray} (h1 : 1 < s.size) (h : s[0].toNat = 48) : readable s.data.toList = false := by
  have hhead : s.data.toList.head? = some s[0] := by
    rw [List.head?_eq_getElem?]; simp [show 0 < s.size by omega, ByteArray.getElem_eq_getElem_data]
  have hlen : s.data.toList.length = s.size := by simp
  have e1 : s[0] = 48 := UInt8.toNat_inj.1 h
  have e2 : (s.data.toList == [48]) = false := by
    cases e : s.data.toList with
    | nil => rfl
    | cons c t =>
      rw [e] at hlen
      cases t with
      | nil => simp at hlen; omega
      | cons d u => simp
  simp [readable, hhead, e1, e2]
set_option maxHeartbeats 4000000 in
theorem rread_any (s : ByteArray) (w : World) (hs : s.size ≤ 1000000) :
    Calls Tryd.prog 28 #[.string s] w (RReadPost s.data.toList w) := by
  have htl := ByteArray.toList_eq s
  have hsz : s.data.toList.length = s.size := by simp
  have HR0 := Lib.hid (And.intro ((Kept.start w (.bool false) (.slice none 0 0) 28).call (below_one _ (.cells #[.bool false, .slice none 0 0] 28)))
    (And.intro (⟨_, _, by simp [go_sem], by simp [go_sem], isNum_zero⟩ : ∃ x y, ((w.alloc (.cells #[.bool false, .slice none 0 0] 28)).alloc (.cells #[.bool false, .slice none 0 0] 28)).cell? ⟨w.heap.size + 1, 0, none⟩ = some x ∧ ((w.alloc (.cells #[.bool false, .slice none 0 0] 28)).alloc (.cells #[.bool false, .slice none 0 0] 28)).cell? ⟨w.heap.size + 1, 1, none⟩ = some y ∧ IsNum ((w.alloc (.cells #[.bool false, .slice none 0 0] 28)).alloc (.cells #[.bool false, .slice none 0 0] 28)) (.agg #[x, y]) 0)
      (by have := Kept.start (w.alloc (.cells #[.bool false, .slice none 0 0] 28)) (.bool false) (.slice none 0 0) 28; simp only [World.size_alloc] at this; exact this.down (below_one w _))))
  have hE := Lib.hid (below_two w (.cells #[.bool false, .slice none 0 0] 28) (.cells #[.bool false, .slice none 0 0] 28))
  by_cases hA : s.size = 0
  · have h0 : s.data.toList = [] := List.length_eq_zero_iff.1 (by omega)
    have hR : Hid (readable s.data.toList = false) := Lib.hid (by rw [h0]; rfl)
    rw [h0] at htl
    clear hsz h0 HR0
    go_enter Tryd.func28, Tryd.ntmps28
    go_wp2_with fail
    exact bodyPost_ret (v := .tuple #[.agg #[.bool false, .slice none 0 0], .bool false]) (by simp [results, Tryd.results28, go_sem]) rfl (.inr ⟨hR.out, _, rfl, isNum_zero, hE.out⟩)
  · have h1 : ¬ s.toList = [] := by rw [htl]; intro e; rw [e] at hsz; simp at hsz; omega
    have h2 : s.toList.isEmpty = false := by cases e : s.toList with | nil => exact absurd e h1 | cons _ _ => rfl
    by_cases hB : 1000 < s.size
    · have hR : Hid (readable s.data.toList = false) := Lib.hid (by simp [readable]; intro _ h; omega)
      have hB' : (1000 : Int) < (s.size : Int) := by omega
      clear hsz htl HR0
      go_enter Tryd.func28, Tryd.ntmps28
      go_wp2_with fail
      exact bodyPost_ret (v := .tuple #[.agg #[.bool false, .slice none 0 0], .bool false]) (by simp [results, Tryd.results28, go_sem]) rfl (.inr ⟨hR.out, _, rfl, isNum_zero, hE.out⟩)
    · have hB' : (s.size : Int) ≤ 1000 := by omega
      have hp : 0 < s.size := by omega
      by_cases hC : 1 < s.size ∧ s[0].toNat = 48
      · have hR := Lib.hid (bad_head hC.1 hC.2)
        have hC1 : (s[0].toNat : Int) = 48 := by omega
        have hC2 : (1 : Int) < (s.size : Int) := by omega
        clear hsz htl HR0 hC
        go_enter Tryd.func28, Tryd.ntmps28
        go_wp2_with fail
        exact bodyPost_ret (v := .tuple #[.agg #[.bool false, .slice none 0 0], .bool false]) (by simp [results, Tryd.results28, go_sem]) rfl (.inr ⟨hR.out, _, rfl, isNum_zero, hE.out⟩)
      · have hG := Lib.hid (good_head hp (by omega) hC)
        have hD : ((s.size : Int) ≤ 1) ∨ ((1 : Int) < (s.size : Int) ∧ ((s[0].toNat : Int) == 48) = false) := by
          by_cases q : 1 < s.size
          · exact .inr ⟨by omega, by simp; omega⟩
          · exact .inl (by omega)
        have HSz := Lib.hid hsz
        clear hsz htl hC hE
        rcases hD with hD | ⟨hD, hD2⟩
        all_goals
          go_enter Tryd.func28, Tryd.ntmps28
          go_wp2_with fail
          clear hD
          go_loopw [5] (fun i wr => ∃ k : Nat, k ≤ s.size ∧ i = .int .i64 k ∧ Hid ((s.data.toList.take k).all isDig = true) ∧ Hid (Kept w w.heap.size 28 wr ∧ NumBox w (w.heap.size + 1) (decI (s.data.toList.take k)) wr)) (fun i _ => s.size - (intOf i).toNat)
          case atStart => exact ⟨0, Nat.zero_le _, rfl, Lib.hid rfl, Lib.hid ⟨HR0.out.1, HR0.out.2.1, HR0.out.2.2⟩⟩
          case round =>
            obtain ⟨k, hk, rfl, hA2, hS⟩ := hrel
            clear HR0
            obtain ⟨nb, np, nl, nc, hx, hy, hnum⟩ := hS.out.2.cells
            have hkr := hS.out.1
            by_cases hlt : k < s.size
            · have hsn := bytes_snoc s k hlt
              have hbad := Lib.hid (fun h => bad_in hlt h)
              have hnx := Lib.hid (fun (h : isDig s[k] = true) => And.intro (by rw [hsn, decI_snoc] : decI (s.data.toList.take (k + 1)) = decI (s.data.toList.take k) * 10 + ((s[k].toNat : Int) - 48)) (by rw [hsn, List.all_append, hA2.out]; simp [h] : (s.data.toList.take (k + 1)).all isDig = true))
              have hcl : s[k].toNat < 256 := UInt8.toNat_lt _
              clear hsn
              by_cases hdg : 48 ≤ s[k].toNat ∧ s[k].toNat ≤ 57
              · obtain ⟨d1, d2⟩ := hdg
                have hb : isDig s[k] = true := by simp [isDig]; omega
                have hN := Lib.hid (hnx.out hb)
                have hb3 : 48 ≤ (s[k].toNat : Int) := by omega
                have hb4 : (s[k].toNat : Int) ≤ 57 := by omega
                have hds := dec_sized hA2.out (by rw [List.length_take]; omega)
                generalize decI (s.data.toList.take k) = D at *
                have e5 : IntKind.u8.wrap ((s[k].toNat : Int) - 48) = (s[k].toNat : Int) - 48 := by simp [IntKind.wrap, IntKind.signed, IntKind.bits]; omega
                have e6 : IntKind.u64.wrap ((s[k].toNat : Int) - 48) = (s[k].toNat : Int) - 48 := by rw [IntKind.wrap_u64]; omega
                have HNm := Lib.hid hnum
                have hten : Sized 1001 (10 : Int) := (sized8 (by decide) (by decide)).mono (by decide)
                have hsm : Sized 1001 ((s[k].toNat : Int) - 48) := (sized8 (by omega) (by omega)).mono (by decide)
                have HM := Lib.hid (fun w1 q (hb : Below wr.heap.size wr w1) (hq : IsNum w1 q 10) => num_mul _ q D 10 1001 w1 (HNm.out.below hb) hq hds.2.1 hten (by decide))
                have HA := Lib.hid (fun w1 q y (hq : IsNum w1 q (D * 10)) (hy : IsNum w1 y ((s[k].toNat : Int) - 48)) => num_add q y (D * 10) ((s[k].toNat : Int) - 48) 1001 w1 hq hy hds.2.2.2 hsm (by decide))
                have hv0 : (0 : Int) ≤ (s[k].toNat : Int) - 48 := by omega
                have hv1 : (s[k].toNat : Int) - 48 ≤ 9 := by omega
                clear hbad hnx hb hnum hkr hds hten hsm d1 d2 hcl
                go_wp2_with fail
                go_region_law (first
                  | (go_simp; go_at_call_of 20 (10 : Int); refine (nat_any 10 _ (by decide) (by decide)).mono ?_; rintro e w1 ⟨q, rfl, hq, hb1⟩; replace hb1 := below_drew' hb1; have hx1 := cell_later hb1 hx; have hy1 := cell_later hb1 hy)
                  | (go_simp; go_at_call 53; refine (HM.out _ _ hb1 hq).mono ?_; rintro e w2 ⟨mm, rfl, hmm, hb2⟩)
                  | (go_simp; go_at_call 20; refine (nat_any _ _ hv0 (by omega)).mono ?_; rintro e w3 ⟨y, rfl, hyy, hb3'⟩)
                  | (go_simp; go_at_call 52; refine (HA.out _ _ _ (hmm.below hb3') hyy).mono ?_; rintro e w4 ⟨r, rfl, hr, hb4'⟩; have hb14 := hb1.trans ((hb2.trans ((hb3'.trans (hb4'.mono hb3'.size)).mono hb2.size)).mono hb1.size); have hk4 := hS.out.2.2.call hb14; have hR4 := hS.out.1.call hb14; obtain ⟨rn, rp, rl, rc, rfl⟩ := hr.shape; obtain ⟨⟨x2, hx2⟩, ⟨y2, hy2⟩, hf1, hf2⟩ := hk4.cells))
                all_goals
                  have hBx := Lib.hid (box_store hk4 hr)
                  have hR5 := Lib.hid (hR4.far (N := w.heap.size + 1) (by omega) (by omega) (.bool rn) (.slice rp rl rc))
                  rw [← hN.out.1] at hBx
                  clear hk4 hR4 hr hb14 hb1 hb2 hb3' hb4' hq hmm hyy hx1 hy1 hx2 hy2 hf1 hf2 hx hy HM HA HNm hS
                  go_wp2_with fail
                  go_roundw
                  case rel => exact ⟨k + 1, by omega, by go_num, Lib.hid hN.out.2, Lib.hid ⟨hR5.out, hBx.out⟩⟩
                  case measure => simp [intOf]; omega
              · have hb : isDig s[k] = false := by
                  cases e : isDig s[k] with
                  | false => rfl
                  | true => exact absurd (isDig_iff.1 e) hdg
                have hR := Lib.hid (hbad.out hb)
                have hor : (s[k].toNat : Int) < 48 ∨ (48 ≤ (s[k].toNat : Int) ∧ 57 < (s[k].toNat : Int)) := by omega
                obtain ⟨⟨x1, hx1⟩, ⟨y1, hy1⟩, hf1, hf2⟩ := hkr.cells
                have hE := Lib.hid ((hkr.store (.bool false) (.slice none 0 0)).1)
                clear hbad hnx hb hdg hnum hkr hS hx hy
                rcases hor with hor | ⟨hor, hor2⟩
                all_goals
                  go_wp2_with fail
                  exact bodyPost_ret (v := .tuple #[.agg #[.bool false, .slice none 0 0], .bool false]) (by simp [results, Tryd.results28, go_sem, hx1, hy1]) rfl (.inr ⟨hR.out, _, rfl, isNum_zero, hE.out⟩)
            · have ht : s.data.toList.take k = s.data.toList := List.take_of_length_le (by have := HSz.out; omega)
              rw [ht] at hA2 hnum
              have hR := Lib.hid (readable_of hG.out hA2.out)
              obtain ⟨⟨x1, hx1⟩, ⟨y1, hy1⟩, hf1, hf2⟩ := hkr.cells
              have hNf := Lib.hid (hkr.num hnum)
              have hE := Lib.hid ((hkr.store (.bool nb) (.slice np nl nc)).1)
              clear ht hS hnum hkr hA2
              go_wp2_with fail
              exact bodyPost_ret (v := .tuple #[.agg #[.bool nb, .slice np nl nc], .bool true]) (by simp [results, Tryd.results28, go_sem, hx1, hy1]) rfl (.inl ⟨hR.out, _, rfl, hNf.out, hE.out⟩)
end Go.Proofs.YtpfcacjcikhamaaDoor
