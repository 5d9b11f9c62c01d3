/- Layer 17: the program's Close and Order. -/
import Derived.Test.YtdopgpijbilffaaLath
namespace Go.Proofs.Ytdopgpijbilffaa
set_option maxRecDepth 100000
open Go.RowKit Go.Maps Go.Sort Go.Shelf
set_option linter.unusedVariables false
def natsI (l : List Nat) : List Int := l.map fun n => ((n : Nat) : Int)
theorem natsI_get (l : List Nat) (k : Nat) : (natsI l).getD k 0 = ((l.getD k 0 : Nat) : Int) := by
  unfold natsI
  rw [List.getD_eq_getElem?_getD, List.getD_eq_getElem?_getD, List.getElem?_map]
  cases l[k]? <;> rfl
theorem natsI_len (l : List Nat) : (natsI l).length = l.length := by simp [natsI]
/-- A slice value that reads as these sets. -/
abbrev Msk (w : World) (v : Value) (l : List Nat) : Prop := Ints .u32 w v (natsI l)
theorem Msk.at {w : World} {a : Option Addr} {n cap : Nat} {l : List Nat} (h : Msk w (.slice a n cap) l) {k : Nat} (hk : k < l.length) : ∃ b off, a = some ⟨b, off, none⟩ ∧ w.cell? ⟨b, off + k, none⟩ = some (.int .u32 ((l.getD k 0 : Nat) : Int)) := by
  obtain ⟨b, off, rfl, -, hc⟩ := Ints.cell h (i := k) (by rw [natsI_len]; exact hk)
  rw [natsI_get] at hc
  exact ⟨b, off, rfl, hc⟩
theorem Msk.len {w : World} {v : Value} {l : List Nat} (h : Msk w v l) : ∃ a cap, v = .slice a l.length cap := by
  obtain ⟨a, cap, rfl, -⟩ := h
  exact ⟨a, cap, by rw [natsI_len]⟩
theorem natsU_int (l : List Nat) : natsU l = (natsI l).map (Value.int .u32) := by simp [natsU, natsI, Function.comp_def]
theorem msk_of {w : World} {B n : Nat} {v : Value} {l : List Nat} (h : w.ownsRow B 22 1 v n (natsU l)) : Msk w v l := by
  rw [natsU_int] at h
  exact Ints.own h
theorem and17 {a b : Nat} (ha : a < 4294967296) (hb : b < 4294967296) : bits .and .u32 (a : Int) (b : Int) = ((a &&& b : Nat) : Int) := by
  rw [u32_and a b (by omega) (by omega) (by omega) (by omega)]
  simp only [Int.toNat_natCast]
/-- What Close hands back. -/
def CloP (w : World) (l : List Nat) (e : Ending) (w' : World) : Prop :=
  (∃ v L, e = .returned (.tuple #[v, .int .i64 0]) ∧ List.Pairwise (fun a b : Nat => a < b) L ∧ (∀ x, x ∈ L ↔ clo l x) ∧ L.length ≤ 1000000 ∧ w'.ownsRow w.heap.size 22 1 v L.length (natsU L)) ∧ Below w.heap.size w w'
theorem strict_of {cf : U32 → U32 → Int} {L : List U32} (hn : L.Nodup) (h : L.Pairwise (fun a b => ltOf cf b a = false)) (ht : ∀ x y, ltOf cf x y = false → ltOf cf y x = false → x = y) : L.Pairwise (fun a b => ltOf cf a b = true) := by
  refine (List.pairwise_and_iff.2 ⟨h, hn⟩).imp fun {a b} q => ?_
  by_cases e : ltOf cf a b = true
  · exact e
  · exact absurd (ht a b (eq_false_of_ne_true e) q.1) q.2
theorem mem_vals {L : List U32} {x : Nat} : x ∈ L.map Subtype.val ↔ ∃ hx : x < 4294967296, (⟨x, hx⟩ : U32) ∈ L := by
  rw [List.mem_map]
  constructor
  · rintro ⟨y, hy, rfl⟩
    exact ⟨y.2, hy⟩
  · rintro ⟨hx, q⟩
    exact ⟨_, q, rfl⟩
theorem own_nats {w : World} {B B' : Nat} {v : Value} {L : List U32} (h : w.ownsRow B 22 1 v L.length (L.map encU)) (hb : B' ≤ B) : w.ownsRow B' 22 1 v (L.map Subtype.val).length (natsU (L.map Subtype.val)) := by
  rw [natsU_map] at h
  rw [List.length_map]
  exact own_lower h hb
theorem ltO_tot {x y : Nat} (h1 : ¬ ltO x y) (h2 : ¬ ltO y x) : x = y := by
  unfold ltO at *
  generalize cntN 32 x = a at *
  generalize cntN 32 y = b at *
  omega
theorem clo_lt {l : List Nat} (hl : Bd l) {x : Nat} (h : clo l x) : x < 4294967296 := (clo_all hl h).2.2
theorem pow12 {k : Nat} (h : k ≤ 12) : 2 ^ k ≤ 4096 := by
  have := Nat.pow_le_pow_right (n := 2) (by decide) h
  simpa using this
set_option maxHeartbeats 8000000 in
theorem pclose_any (w : World) (v : Value) (l : List Nat) (h : Msk w v l) (hb : Bd l) (hn : l.length ≤ 12) :
    Calls Try.prog 20 #[v] w (CloP w l) := by
  have hmm := @run_makeMap Try.prog
  have HM := Lib.hid h
  have HB := Lib.hid hb
  have HS := Lib.hid (fun w1 b nn D0 hown hsz => sorted17_any b nn D0 w1 37 cfC swoC (enters_of Try.func37 (by kernel_rfl) rfl) cmpC_any hown hsz)
  have HC := Lib.hid (fun w1 bd bs nd ns Dd Ds hne hd hs hn => copy17_any w1 bd bs nd ns Dd Ds hne hd hs hn)
  have hmx : (1000000 : Nat) + 1 ≤ maxLen := by unfold maxLen; omega
  obtain ⟨p, cap, rfl⟩ := h.len
  clear h hb
  have h12 : (l.length : Int) ≤ 12 := by omega
  go_enter Try.func20, Try.ntmps20
  go_wp2_with fail
  have e0 : (w.alloc (.map #[] 0)).heap.size = w.heap.size + 1 := by simp
  go_loopw [15] (fun iv wr => ∃ k : Nat, k ≤ l.length ∧ iv = .int .i64 k ∧ Hid (∃ D n, n + 1 ≤ 2 ^ k ∧ SetM wr w.heap.size n D ∧ ∀ x : U32, Maps.has D (keyN x.1) = true ↔ clo (l.take k) x.1) ∧ Hid (Below w.heap.size w wr)) (fun iv _ => l.length - (intOf iv).toNat)
  case atStart =>
    refine ⟨0, Nat.zero_le _, rfl, Lib.hid ⟨_, 0, by decide, World.ownsMap_made _ _ _ _, fun x => ?_⟩, Lib.hid (below_one w _)⟩
    rw [List.take_zero, has_empty]
    exact ⟨fun h => Bool.noConfusion h, fun h => absurd h (clo_nil _)⟩
  case round =>
    obtain ⟨k, hk, rfl, HJ, HW⟩ := hrel
    by_cases hlt : k < l.length
    · have hlt' : (k : Int) < (l.length : Int) := by omega
      obtain ⟨b0, off, rfl, hc⟩ := Msk.at (HM.out.below HW.out) hlt
      have hal := Bd.getD HB.out k
      have HT := Lib.hid (take_next hlt)
      obtain ⟨D, n, hn1, hown, hcl⟩ := HJ.out
      have hp12 := pow12 (k := k) (by omega)
      have hsz := size_le17 hown
      have HCl := Lib.hid hcl
      have HN1 := Lib.hid hn1
      have hbc := hown.lt
      generalize l.getD k 0 = a at *
      have e1 : (wr.alloc (.map #[] 0)).heap.size = wr.heap.size + 1 := by simp
      have hmade := World.ownsMap_made (P := Try.prog) (k := 22) (R := unitElem (H := Unit)) wr
      clear hcl hn1 HJ
      go_wp2_with (first
        | (refine wpList_insert17 _ rfl _ _ _ 45 rfl 22 46 lawU Try.underlying45 (unitElem (H := Unit)) wr.heap.size 0 _ rfl hmade (by omega) _ _ _ rfl rfl (key17 hal) _ [] unitElem_mk ?_; intro w1 hm1 hg1; have hc1 := (hown.alloc (.map #[] 0)).kept hg1 (fun e => by have := Option.some.inj e; omega))
        | (at_range; refine wpList_range_own _ rfl _ 45 rfl 22 46 lawU Try.underlying45 _ w.heap.size n _ rfl hc1 ?_; intro w2 hrg0 hg0 hs0))
      go_frame
      have hs1 := hg1.size
      rw [e1] at hs1
      have hm2 := hm1.kept hg0 (by simp)
      have HB2 := Lib.hid ((((HW.out.alloc HW.out.size (.map #[] 0)).grown hg1 (by rw [e1]; have := HW.out.size; omega) (fun j hj => by have := Option.some.inj hj; have := HW.out.size; omega)).grown hg0 (Nat.le_trans HW.out.size (by omega)) (fun j hj => by cases hj)))
      have hlw := hrg0.lt
      have HM2 := Lib.hid hm2
      have HS1 := Lib.hid hs1
      have HX := Lib.hid (fun (x : U32) => show Maps.has ((DataW.map [] : DataW Unit).put (keyN a) (.agg [])) (keyN x.1) = true ↔ x.1 = a from by
        rw [has_put17 isMap_empty, has_empty, Bool.or_false, decide_eq_true_iff])
      have HI := Lib.hid (show w1.heap.size < w2.heap.size ∧ w.heap.size < wr.heap.size ∧ wr.heap.size < w1.heap.size from ⟨hlw, hbc, by omega⟩)
      clear hm1 hg1 hc1 hm2 hs0 hs1 hg0 hown hmade e1 hlw hbc
      generalize hR : w1.heap.size = R at *
      generalize hMb : wr.heap.size = M at *
      clear hc HW hMb hR HM
      go_loopw [8] (fun _ wr => ∃ (left : Lit → Bool) (cnt : Nat) (Dm : DataW Unit), wr.ranges Try.prog 22 (unitElem (H := Unit)) w.heap.size R n D left cnt ∧ cnt ≤ Maps.size D ∧
          Hid (SetM wr M (1 + (Maps.size D - cnt)) Dm) ∧ Hid (∀ x : U32, Maps.has Dm (keyN x.1) = true ↔ (x.1 = a ∨ ∃ b : U32, (Maps.has D (keyN b.1) = true ∧ left (keyN b.1) = false) ∧ x.1 = a &&& b.1)) ∧ Hid (Below w.heap.size w wr))
        (fun _ wr => wr.rangeLeft w.heap.size R)
      case atStart =>
        refine ⟨_, _, _, hrg0, Nat.le_refl _, Lib.hid (HM2.out.mono (by omega)), Lib.hid (fun x => ?_), HB2⟩
        rw [HX.out]
        constructor
        · exact .inl
        · rintro (q | ⟨b, ⟨h1, h2⟩, -⟩)
          · exact q
          · rw [h1] at h2; cases h2
      case round =>
        obtain ⟨left, cnt, Dm, hrg, hcs, HO, HH, HW⟩ := hrel
        go_wp2_with (first
          | (at_next; refine wpList_next_ranges _ rfl _ rfl 22 lawU (unitElem (H := Unit)) encU (fun (_ : Unit) => Value.agg #[]) (fun key kl hk => by obtain ⟨x, hx, _⟩ := key_u32 hk; exact ⟨x, hx⟩) (fun v y hv => ⟨(), (unitElem_inv hv).1⟩) w.heap.size R n _ _ _ rfl hrg ?_ ?_)
          | go_in)
        · intro hc0 hl0
          have HCC := Lib.hid (HC.out wr w.heap.size M n _ D Dm (by have := HI.out; omega) hrg.owns HO.out (by have := HN1.out; omega))
          have HD2 := Lib.hid (fun (x : U32) => show Maps.has Dm (keyN x.1) = true ↔ (x.1 = a ∨ ∃ b : U32, Maps.has D (keyN b.1) = true ∧ x.1 = a &&& b.1) from by
            rw [HH.out]
            constructor
            · rintro (q | ⟨b, ⟨h1, h2⟩, q⟩)
              · exact .inl q
              · exact .inr ⟨b, h1, q⟩
            · rintro (q | ⟨b, h1, q⟩)
              · exact .inl q
              · exact .inr ⟨b, ⟨h1, hl0 _⟩, q⟩)
          have HN2 := Lib.hid (show 1 + (Maps.size D - cnt) ≤ 1 + n by omega)
          clear HC HX HM2 hrg0 HH HO hrg hl0 hc0 HB2
          generalize 1 + (Maps.size D - cnt) = m at *
          go_wp2_with fail
          refine (HCC.out).mono ?_; rintro e w3 ⟨rfl, ⟨D3, hown3, hhas3⟩, hg3⟩
          have HB3 := Lib.hid (HW.out.grown hg3 HW.out.size (fun j hj => by have := Option.some.inj hj; omega))
          have HP := Lib.hid (show ∀ x : U32, Maps.has D3 (keyN x.1) = true ↔ clo (l.take (k + 1)) x.1 from fun x => by
            rw [hhas3, Bool.or_eq_true, HD2.out, HT.out, clo_snoc, HCl.out]
            constructor
            · rintro (q | q | ⟨b, q, r⟩)
              · exact .inl q
              · exact .inr (.inl q)
              · exact .inr (.inr ⟨b.1, (HCl.out b).1 q, r⟩)
            · rintro (q | q | ⟨b, q, r⟩)
              · exact .inl q
              · exact .inr (.inl q)
              · exact .inr (.inr ⟨⟨b, clo_lt (HB.out.take k) q⟩, (HCl.out ⟨b, clo_lt (HB.out.take k) q⟩).2 q, r⟩))
          have HO3 := Lib.hid hown3
          have HN3 := Lib.hid (show n + m + 1 ≤ 2 ^ (k + 1) by have h1 := HN1.out; have h2 := HN2.out; rw [Nat.pow_succ]; omega)
          clear hown3 hhas3 hg3 HCC HD2 HN2 HW HN1 HCl HT
          go_wp2_with fail
          go_roundw
          case rel => exact ⟨k + 1, by omega, by go_num, Lib.hid ⟨D3, n + m, HN3.out, HO3.out, HP.out⟩, HB3⟩
          case measure => simp [intOf]; omega
        · intro b hb kl yd yp w3 cnt3 hkey hlk hv hat hrg3 hlt3 hg3 hs3 hen
          obtain ⟨x', ex, rfl⟩ := key_u32 hkey
          obtain rfl : (⟨b, hb⟩ : U32) = x' := encU_inj ex
          have hand := and17 hal hb
          have hab := and_lt32 (b := b) (a := a) hal
          have HO3 := Lib.hid (HO.out.kept hg3 (fun e => by have := Option.some.inj e; have := HI.out; omega))
          have HB3 := Lib.hid (HW.out.grown hg3 HW.out.size (fun j hj => by have := Option.some.inj hj; have := HI.out; omega))
          clear hs3 hv
          rw [show encU ⟨b, hb⟩ = Value.int .u32 ((b : Nat) : Int) from rfl] at hen
          go_wp2_with (first
            | (at_mapUpdate; refine wpList_mapUpdate_own _ rfl _ _ _ 45 rfl 22 46 lawU Try.underlying45 (unitElem (H := Unit)) M _ _ rfl HO3.out (by have := HN1.out; omega) _ _ _ rfl rfl (key17 hab) _ [] unitElem_mk ?_; intro w4 hm4 hg4; go_frame)
            | go_in)
          have hrg4 := hrg3.kept hg4 (fun e => by have := Option.some.inj e; have := HI.out; omega) (fun e => by have := Option.some.inj e; have := HI.out; omega)
          refine ⟨⟨_, cnt3, _, hrg4, by omega, Lib.hid (hm4.mono (by omega)), Lib.hid (fun x => ?_), Lib.hid (HB3.out.grown hg4 HB3.out.size (fun j hj => by have := Option.some.inj hj; have := HI.out; omega))⟩, ?_⟩
          · rw [has_put17 HO3.out.isMap, Bool.or_eq_true, decide_eq_true_iff, HH.out]
            have hDb : Maps.has D (keyN b) = true := has_true_of_atKey hat
            constructor
            · rintro (q | q | ⟨c, ⟨h1, h2⟩, r⟩)
              · exact .inr ⟨⟨b, hb⟩, ⟨hDb, by simp [keyN_same]⟩, q⟩
              · exact .inl q
              · exact .inr ⟨c, ⟨h1, by simp [h2]⟩, r⟩
            · rintro (q | ⟨c, ⟨h1, h2⟩, r⟩)
              · exact .inr (.inl q)
              · by_cases hcb : c.1 = b
                · rw [hcb] at r; exact .inl r
                · refine .inr (.inr ⟨c, ⟨h1, ?_⟩, r⟩)
                  have h3 : (left (keyN c.1) && !(keyN c.1).sameKey (keyN b)) = false := h2
                  rw [keyN_same, decide_eq_false hcb] at h3
                  simpa using h3
          · rw [hrg4.left_eq, hrg.left_eq]; exact hlt3
    · have hkl : k = l.length := by omega
      subst hkl
      have hlt' : ¬ (l.length : Int) < (l.length : Int) := by omega
      obtain ⟨D, n, hn1, hown, hcl⟩ := HJ.out
      have hp12 := pow12 (k := l.length) hn
      rw [List.take_length] at hcl
      have HSS := Lib.hid (HS.out wr w.heap.size n D hown (by have := size_le17 hown; omega))
      have HCl := Lib.hid hcl
      clear hcl hown HS HC HJ
      go_wp2_with fail
      refine (HSS.out).mono ?_; rintro e w3 ⟨v, L, rfl, hS, hpw, hl, hrow, hb⟩
      have HX := Lib.hid (And.intro hS (And.intro hpw (And.intro hl (And.intro hrow hb))))
      obtain ⟨pa, pc, rfl⟩ := own_slice hrow
      clear hS hpw hl hrow hb HSS
      go_wp2_with fail
      go_ret2
      refine ⟨⟨_, L.map Subtype.val, rfl, ?_, fun x => ?_, by rw [List.length_map]; exact HX.out.2.2.1, own_nats HX.out.2.2.2.1 HW.out.size⟩, below_then HW.out HX.out.2.2.2.2⟩
      · refine List.pairwise_map.2 ((strict_of HX.out.1.1 HX.out.2.1 (fun x y h1 h2 => ?_)).imp fun {x y} h => ?_)
        · rw [ltC] at h1 h2
          exact Subtype.ext (by simp at h1 h2; omega)
        · rw [ltC] at h
          simpa using h
      · rw [mem_vals]
        constructor
        · rintro ⟨hx, q⟩
          exact (HCl.out ⟨x, hx⟩).1 ((HX.out.1.2 _).1 q)
        · intro q
          exact ⟨clo_lt HB.out q, (HX.out.1.2 _).2 ((HCl.out ⟨x, clo_lt HB.out q⟩).2 q)⟩
/-- What Order hands back. -/
def OrdP (w : World) (l : List Nat) (e : Ending) (w' : World) : Prop :=
  (∃ v, e = .returned v ∧ (ordN l 33).length ≤ 1000000 ∧ w'.ownsRow w.heap.size 22 1 v (ordN l 33).length (natsU (ordN l 33))) ∧ Below w.heap.size w w'
set_option maxHeartbeats 4000000 in
theorem porder_any (w : World) (v : Value) (l : List Nat) (h : Msk w v l) (hb : Bd l) (hn : l.length ≤ 1000) :
    Calls Try.prog 15 #[v] w (OrdP w l) := by
  have hmm := @run_makeMap Try.prog
  have HM := Lib.hid h
  have HB := Lib.hid hb
  have HS := Lib.hid (fun w1 b nn D0 hown hsz => sorted17_any b nn D0 w1 27 cfO swoO (enters_of Try.func27 (by kernel_rfl) rfl) cmpO_any hown hsz)
  have hmx : (1000000 : Nat) + 1 ≤ maxLen := by unfold maxLen; omega
  obtain ⟨p, cap, rfl⟩ := h.len
  clear h hb
  go_enter Try.func15, Try.ntmps15
  go_wp2_with fail
  go_loopw [9] (fun iv wr => ∃ k : Nat, k ≤ l.length ∧ iv = .int .i64 k ∧ Hid (∃ D, SetM wr w.heap.size k D ∧ ∀ x : U32, Maps.has D (keyN x.1) = true ↔ x.1 ∈ l.take k) ∧ Hid (Below w.heap.size w wr)) (fun iv _ => l.length - (intOf iv).toNat)
  case atStart =>
    refine ⟨0, Nat.zero_le _, rfl, Lib.hid ⟨_, World.ownsMap_made _ _ _ _, fun x => ?_⟩, Lib.hid (below_one w _)⟩
    rw [List.take_zero, has_empty]
    simp
  case round =>
    obtain ⟨k, hk, rfl, HJ, HW⟩ := hrel
    by_cases hlt : k < l.length
    · have hlt' : (k : Int) < (l.length : Int) := by omega
      obtain ⟨b0, off, rfl, hc⟩ := Msk.at (HM.out.below HW.out) hlt
      have hal := Bd.getD HB.out k
      have HT := Lib.hid (take_next hlt)
      obtain ⟨D, hown, hcl⟩ := HJ.out
      have HCl := Lib.hid hcl
      generalize l.getD k 0 = a at *
      clear hcl HJ
      go_wp2_with (first
        | (at_mapUpdate; refine wpList_mapUpdate_own _ rfl _ _ _ 45 rfl 22 46 lawU Try.underlying45 (unitElem (H := Unit)) w.heap.size _ _ rfl hown (by omega) _ _ _ rfl rfl (key17 hal) _ [] unitElem_mk ?_; intro w1 hown1 hg1)
        | go_in)
      have HJ2 := Lib.hid (show ∃ D, SetM w1 w.heap.size (k + 1) D ∧ ∀ x : U32, Maps.has D (keyN x.1) = true ↔ x.1 ∈ l.take (k + 1) from ⟨_, hown1, fun x => by
        rw [has_put17 hown.isMap, Bool.or_eq_true, decide_eq_true_iff, HCl.out, HT.out, List.mem_append, List.mem_singleton]
        exact Or.comm⟩)
      have HB2 := Lib.hid (HW.out.grown hg1 HW.out.size (fun j hj => by have := Option.some.inj hj; omega))
      clear hown1 hg1 hown HCl HT HW
      go_wp2_with fail
      go_roundw
      case rel => exact ⟨k + 1, by omega, by go_num, HJ2, HB2⟩
      case measure => simp [intOf]; omega
    · have hkl : k = l.length := by omega
      subst hkl
      have hlt' : ¬ (l.length : Int) < (l.length : Int) := by omega
      obtain ⟨D, hown, hcl⟩ := HJ.out
      rw [List.take_length] at hcl
      have HSS := Lib.hid (HS.out wr w.heap.size _ D hown (by have := size_le17 hown; omega))
      have HCl := Lib.hid hcl
      clear hcl hown HS HJ
      go_wp2_with fail
      refine (HSS.out).mono ?_; rintro e w3 ⟨v, L, rfl, hS, hpw, hl, hrow, hb⟩
      have HX := Lib.hid (And.intro hS (And.intro hpw (And.intro hl (And.intro hrow hb))))
      obtain ⟨pa, pc, rfl⟩ := own_slice hrow
      clear hS hpw hl hrow hb HSS
      go_wp2_with fail
      go_ret
      have e : L.map Subtype.val = ordN l 33 := by
        refine ord_one (List.pairwise_map.2 ((strict_of HX.out.1.1 HX.out.2.1 (fun x y h1 h2 => ?_)).imp fun {x y} h => ?_)) (fun x => ?_)
        · rw [ltO17, decide_eq_false_iff_not] at h1 h2
          exact Subtype.ext (ltO_tot h1 h2)
        · rw [ltO17, decide_eq_true_eq] at h
          exact h
        · rw [mem_vals]
          constructor
          · rintro ⟨hx, q⟩
            exact (HCl.out ⟨x, hx⟩).1 ((HX.out.1.2 _).1 q)
          · intro q
            exact ⟨HB.out x q, (HX.out.1.2 _).2 ((HCl.out ⟨x, HB.out x q⟩).2 q)⟩
      have hown := own_nats HX.out.2.2.2.1 HW.out.size
      have hlen : (L.map Subtype.val).length = L.length := List.length_map ..
      rw [e] at hown hlen
      exact ⟨⟨_, rfl, by rw [hlen]; exact HX.out.2.2.1, by rw [hlen] at hown ⊢; exact hown⟩, below_then HW.out HX.out.2.2.2.2⟩
end Go.Proofs.Ytdopgpijbilffaa
