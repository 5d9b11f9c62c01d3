/- BufBack: for any slice of things the statement's function returns true and changes nothing that was there. No condition. -/
import Derived.Test.YtmganccajcpcbaaRows
import Derived.Test.YtmganccajcpcbaaBufr
import Derived.Test.YtmganccajcpcbaaBufv
import Derived.Test.YtmganccajcpcbaaBufs
import Derived.WalkKit
import Derived.ProofKit
import Derived.OpenShut
import Derived.Below
import Derived.Deep.RegionLaw
namespace Go.Proofs.Ytmganccajcpcbaa.bufBack
set_option maxRecDepth 100000
open Go.ChangeShapes Go.WideShapes Go.ChangeAt Go.RowKit
set_option linter.unusedVariables false
theorem own : ownKnob Try.prog.godebug = none := by kernel_rfl
theorem laidOut : laidOutB Try.prog = true := by kernel_rfl
/-- The six cells of a question. -/
def Six (w : World) (b o : Nat) (d u i : Int) (f : Nat) (t : ByteArray) (m : Int) : Prop :=
  w.cell? ⟨b, o, none⟩ = some (.int .i64 d) ∧ w.cell? ⟨b, o + 1, none⟩ = some (.int .u64 u) ∧ w.cell? ⟨b, o + 2, none⟩ = some (.int .i64 i) ∧ w.cell? ⟨b, o + 3, none⟩ = some (.float .f64 f) ∧ w.cell? ⟨b, o + 4, none⟩ = some (.string t) ∧ w.cell? ⟨b, o + 5, none⟩ = some (.int .i64 m)
theorem six_of {w : World} {b off l cap n : Nat} {D U I : Nat → Int} {F : Nat → Nat} {T : Nat → ByteArray} {M : Nat → Int} (h : Asks w (.slice (some ⟨b, off, none⟩) l cap) n D U I F T M) {k : Nat} (hk : k < n) : Six w b (off + k * 6) (D k) (U k) (I k) (F k) (T k) (M k) := by
  obtain ⟨b', off', e, hc⟩ := h.cells hk
  simp only [Option.some.injEq, Addr.mk.injEq, and_true] at e
  obtain ⟨rfl, rfl⟩ := e
  exact hc
theorem run_store_f64 {P : Program} {w : World} {a : Addr} {m : Mode} (k : Nat) : (store a (.float .f64 k) m).run P w = stored P w a (.float .f64 k) m := run_store P w a _ m rfl
/-- What is true while things are written; while they are read. -/
def Writes (w : World) (N : Nat) (L : List (List Int)) (wr : World) : Prop := OutAt wr N L ∧ Below w.heap.size w wr
def Backs (w : World) (M : Nat) (l : List Int) (p : Nat) (wr : World) : Prop := InAt wr M l p 0 ∧ Below w.heap.size w wr
theorem ask_at (w : World) (d u i : Int) (f : Nat) (t : ByteArray) (m : Int) (W : World) (hW : w.alloc (askO d u i f t m) = W) :
    W.cell? ⟨w.heap.size, 0, none⟩ = some (.int .i64 d) ∧ W.cell? ⟨w.heap.size, 1, none⟩ = some (.int .u64 u) ∧ W.cell? ⟨w.heap.size, 2, none⟩ = some (.int .i64 i) ∧ W.cell? ⟨w.heap.size, 3, none⟩ = some (.float .f64 f) ∧ W.cell? ⟨w.heap.size, 4, none⟩ = some (.string t) ∧ W.cell? ⟨w.heap.size, 5, none⟩ = some (.int .i64 m) ∧ Below w.heap.size w W := by
  subst hW
  refine ⟨?_, ?_, ?_, ?_, ?_, ?_, below_one w _⟩ <;> simp [go_sem]
theorem box_on {w w' : World} {G : Nat} {d u i m : Int} {f : Nat} {t : ByteArray} (hb : Below w.heap.size w w') (h : w.cell? ⟨G, 0, none⟩ = some (.int .i64 d) ∧ w.cell? ⟨G, 1, none⟩ = some (.int .u64 u) ∧ w.cell? ⟨G, 2, none⟩ = some (.int .i64 i) ∧ w.cell? ⟨G, 3, none⟩ = some (.float .f64 f) ∧ w.cell? ⟨G, 4, none⟩ = some (.string t) ∧ w.cell? ⟨G, 5, none⟩ = some (.int .i64 m)) : w'.cell? ⟨G, 0, none⟩ = some (.int .i64 d) ∧ w'.cell? ⟨G, 1, none⟩ = some (.int .u64 u) ∧ w'.cell? ⟨G, 2, none⟩ = some (.int .i64 i) ∧ w'.cell? ⟨G, 3, none⟩ = some (.float .f64 f) ∧ w'.cell? ⟨G, 4, none⟩ = some (.string t) ∧ w'.cell? ⟨G, 5, none⟩ = some (.int .i64 m) :=
  ⟨cell_on hb h.1, cell_on hb h.2.1, cell_on hb h.2.2.1, cell_on hb h.2.2.2.1, cell_on hb h.2.2.2.2.1, cell_on hb h.2.2.2.2.2⟩
theorem box_far {w w' : World} {G N : Nat} {d u i m : Int} {f : Nat} {t : ByteArray} (hg : w.grownBy w' (some N)) (hne : G ≠ N) (h : w.cell? ⟨G, 0, none⟩ = some (.int .i64 d) ∧ w.cell? ⟨G, 1, none⟩ = some (.int .u64 u) ∧ w.cell? ⟨G, 2, none⟩ = some (.int .i64 i) ∧ w.cell? ⟨G, 3, none⟩ = some (.float .f64 f) ∧ w.cell? ⟨G, 4, none⟩ = some (.string t) ∧ w.cell? ⟨G, 5, none⟩ = some (.int .i64 m)) : w'.cell? ⟨G, 0, none⟩ = some (.int .i64 d) ∧ w'.cell? ⟨G, 1, none⟩ = some (.int .u64 u) ∧ w'.cell? ⟨G, 2, none⟩ = some (.int .i64 i) ∧ w'.cell? ⟨G, 3, none⟩ = some (.float .f64 f) ∧ w'.cell? ⟨G, 4, none⟩ = some (.string t) ∧ w'.cell? ⟨G, 5, none⟩ = some (.int .i64 m) :=
  ⟨cell_far hg h.1 hne, cell_far hg h.2.1 hne, cell_far hg h.2.2.1 hne, cell_far hg h.2.2.2.1 hne, cell_far hg h.2.2.2.2.1 hne, cell_far hg h.2.2.2.2.2 hne⟩
set_option maxHeartbeats 8000000 in
theorem walk (v1 : Value) (n : Nat) (D U I : Nat → Int) (F : Nat → Nat) (T : Nat → ByteArray) (M : Nat → Int) (w : World) (hq : Asks w v1 n D U I F T M) :
    Calls Try.prog 4 #[v1] w fun e w' => e = .returned (.bool true) ∧ Below w.heap.size w w' := by
  have HA := Lib.hid (fun w => awake8_any w)
  have HS := Lib.hid (small_any w v1 n D U I F T M hq)
  have HQ := Lib.hid (fun w1 (h : Below w.heap.size w w1) => hq.below h)
  have HWf := Lib.hid hq.2
  obtain ⟨⟨a1, cap1, rfl, -, -⟩, -⟩ := hq
  go_enter Try.func4, Try.ntmps4
  go_wp2_with fail
  refine (HS.out).mono ?_; rintro r w1 ⟨⟨bs, rfl, hbs⟩, rfl⟩
  cases bs with
  | false =>
    go_wp2_with fail
    refine (HA.out _).mono ?_; rintro r w1 ⟨rfl, hb⟩
    go_wp2_with fail
    go_ret
    exact ⟨rfl, hb⟩
  | true =>
    have HSm := Lib.hid (hbs rfl)
    have hn40 : n ≤ 40 := HSm.out.1
    obtain ⟨E, hE⟩ : ∃ E : Nat → List Int, ∀ k, E k = encA (D k) (U k) (I k) (keyI (F k)).toNat (T k) := ⟨_, fun _ => rfl⟩
    have hfacts : ∀ k, k < n → (0 ≤ D k ∧ D k ≤ 4) ∧ (0 ≤ U k ∧ U k < 18446744073709551616) ∧ (-9223372036854775808 ≤ I k ∧ I k ≤ 9223372036854775807) ∧ W64 (F k) ∧ keyI (F k) = ((keyI (F k)).toNat : Int) ∧ (T k).size ≤ 200 := fun k hk => by
      obtain ⟨⟨x, hx, hx2⟩, h2, h3, -, -⟩ := HWf.out k hk
      obtain ⟨h4, h5⟩ := HSm.out.2 k hk
      have := key_range h3
      exact ⟨h5, by omega, h2, h3, by omega, h4⟩
    have HFa := Lib.hid hfacts
    have hlen : ∀ k, k ≤ n → (catR (encL E k)).length ≤ 16080 := fun k hk => by
      have := encL_len E (m := 402) k (fun j hj => by
        obtain ⟨h1, h2, h3, h4, h5, h6⟩ := hfacts j (by omega)
        rw [hE]; exact encA_len _ _ _ _ _ h2 h3 h6)
      have : k * 402 ≤ 40 * 402 := Nat.mul_le_mul_right _ (by omega)
      omega
    have HLen := Lib.hid hlen
    have hbt : Bt (catR (encL E n)) := encL_bt E n (fun j hj => by
      obtain ⟨h1, h2, h3, h4, h5, h6⟩ := hfacts j hj
      rw [hE]; exact encA_bt _ _ _ _ _ h2 h3 h6)
    have HBt := Lib.hid hbt
    have HE := Lib.hid hE
    have HO0 := Lib.hid (show Writes w w.heap.size (encL E 0) _ from ⟨out_new w, below_one w _⟩)
    have HS0 := Lib.hid (show Value.string ⟨#[]⟩ = .string (strB (catR (encL E 0))) from rfl)
    clear hbs HS hfacts hlen hbt hE
    go_wp2_with fail
    refine (newout_any _).mono ?_; rintro r w1 ⟨rfl, rfl⟩
    go_wp2_with fail
    go_loopw [4, 5] (fun sv kv wr => ∃ k : Nat, k ≤ n ∧ sv = .string (strB (catR (encL E k))) ∧ kv = .int .i64 k ∧ Hid (Writes w w.heap.size (encL E k) wr)) (fun _ kv _ => n - (intOf kv).toNat)
    case atStart => exact ⟨0, Nat.zero_le _, HS0.out, rfl, HO0⟩
    case round =>
      obtain ⟨k, hk, rfl, rfl, hR⟩ := hrel
      clear HO0 HS0
      by_cases hlt : k < n
      · obtain ⟨hout, hbw⟩ := hR.out
        obtain ⟨b, off, rfl, c0, c1, c2, c3, c4, c5⟩ := (HQ.out wr hbw).cells hlt
        obtain ⟨g1, g2, g3, g4, g5, g6⟩ := HFa.out k hlt
        have HK := Lib.hid hlt
        have i1 : (k : Int) < (n : Int) := by omega
        have i5 : IntKind.i64.wrap ((k : Int) + 1) = (k : Int) + 1 := IntWalk.i64_in _ (by omega)
        have hl1 := HLen.out (k + 1) (by omega)
        have HEk := Lib.hid (HE.out k)
        have HWr := Lib.hid (wr_any wr w.heap.size (encL E k) (D k) (U k) (I k) (F k) (keyI (F k)).toNat (T k) (M k) g1 g2 g3 g4 g5 (by omega) hout (by rw [← HE.out k]; exact Nat.le_trans hl1 (by decide)))
        have HRb := Lib.hid (fun w2 => rb_any w2 (D k) (U k) (I k) (F k) (keyI (F k)).toNat (T k) (M k) g1 g2 g3 g4 g5 (by omega))
        have hbt := encA_bt (D k) (U k) (I k) (keyI (F k)).toNat (T k) g2 g3 g6
        rw [← HE.out k] at hbt HWr HRb
        have HCv := Lib.hid (fun w2 v (h : Ints .u8 w2 v (E k)) => conv_ints h hbt)
        have HAp := Lib.hid (show strB (catR (encL E k)) ++ strB (E k) = strB (catR (encL E (k + 1))) from (strB_append _ _).symm)
        have HCE := Lib.hid (show encL E (k + 1) = E k :: encL E k from rfl)
        have HBw := Lib.hid hbw
        have HC := Lib.hid (fun w2 (h : Below w.heap.size w w2) => six_of (HQ.out w2 h) hlt)
        have hns : ¬ 9223372036854775807 < (strB (catR (encL E k))).size + (strB (E k)).size := by
          rw [strB_size, strB_size]
          have : (catR (encL E (k + 1))).length = (catR (encL E k)).length + (E k).length := by rw [show encL E (k + 1) = E k :: encL E k from rfl]; simp [catR]
          omega
        generalize strB (catR (encL E k)) = S0 at *
        generalize strB (E k) = S1 at *
        generalize D k = d at *
        generalize U k = u at *
        generalize I k = i at *
        generalize F k = f at *
        generalize T k = t at *
        generalize M k = m at *
        clear hout hbw g1 g2 g3 g4 g5 g6 hl1 hbt
        go_wp2_with fail
        refine (HWr.out).mono ?_; rintro r w2 ⟨rfl, h1, h2⟩
        have HB2 := Lib.hid (below_grown HBw.out h2 (Nat.le_refl _))
        have HO2 := Lib.hid h1
        clear h1 h2 c0 c1 c2 c3 c4 c5
        obtain ⟨c0, c1, c2, c3, c4, c5⟩ := HC.out w2 HB2.out
        go_wp2_with fail
        refine (HRb.out _).mono ?_; rintro r w3 ⟨⟨v, rfl, ho⟩, hb⟩
        have HB3 := Lib.hid (below_then HB2.out hb)
        have HO3 := Lib.hid (HO2.out.below hb)
        have hcv := HCv.out _ _ (Ints.own ho)
        obtain ⟨pa, pl, pc, rfl⟩ := own_slice3 ho
        clear ho hb c0 c1 c2 c3 c4 c5
        go_wp2_with fail
        exact ⟨⟨k + 1, by have := HK.out; omega, by rw [HAp.out], by go_num, Lib.hid ⟨by rw [HCE.out]; exact HO3.out, HB3.out⟩⟩, by have := HK.out; simp [intOf]; omega⟩
      · obtain rfl : k = n := by omega
        obtain ⟨hout, hbw⟩ := hR.out
        have hll := HLen.out k (Nat.le_refl _)
        have HY := Lib.hid (fun w2 (h : OutAt w2 w.heap.size (encL E k)) => bytes_any w2 _ _ h (by omega))
        have HN := Lib.hid (fun w2 v (h : Ints .u8 w2 v (catR (encL E k))) => newin_any v _ w2 h HBt.out (by omega))
        have HCv := Lib.hid (fun w2 v (h : Ints .u8 w2 v (catR (encL E k))) => conv_ints h HBt.out)
        have HO := Lib.hid hout
        have HBw := Lib.hid hbw
        have hcr : ∀ k2, catR (encL E (k2 + 1)) = catR (encL E k2) ++ E k2 := fun k2 => rfl
        have HP := Lib.hid (fun k2 (h : k2 < k) => encL_part E k2 k h)
        have HCr := Lib.hid hcr
        have HLl := Lib.hid (show (catR (encL E k)).length = (catR (encL E k)).length from rfl)
        generalize strB (catR (encL E k)) = S at *
        obtain ⟨l, hl⟩ : ∃ l, catR (encL E k) = l := ⟨_, rfl⟩
        have HLl := Lib.hid (show l.length = (catR (encL E k)).length by rw [hl])
        rw [hl] at HY HN HCv HBt hll
        have HP := Lib.hid (fun k2 h => show ∃ more, l = catR (encL E k2) ++ (E k2 ++ more) by rw [← hl]; exact HP.out k2 h)
        clear hl
        clear hout hbw hcr hR
        go_wp2_with fail
        refine (HY.out _ HO.out).mono ?_; rintro r w2 ⟨⟨v, rfl, ho⟩, hb⟩
        have HB2 := Lib.hid (below_then HBw.out hb)
        have HO2 := Lib.hid (HO.out.below hb)
        have hcv := HCv.out _ _ (Ints.own ho)
        obtain ⟨pa, pl, pc, rfl⟩ := own_slice3 ho
        clear ho hb
        go_wp2_with fail
        refine (HY.out _ HO2.out).mono ?_; rintro r w3 ⟨⟨v, rfl, ho⟩, hb⟩
        have HB3 := Lib.hid (below_then HB2.out hb)
        have hi3 := Ints.own ho
        have HI3 := Lib.hid hi3
        obtain ⟨pa, pl, pc, rfl⟩ := own_slice3 ho
        clear ho hb hi3 hcv
        go_wp2_with fail
        refine (HN.out _ _ HI3.out).mono ?_; rintro r w4 ⟨N, rfl, hN, hin, hb⟩
        have HNs := Lib.hid (show w.heap.size ≤ N from Nat.le_trans HB3.out.size hN)
        have HR0 := Lib.hid (show Backs w N l 0 w4 from ⟨hin, below_then HB3.out hb⟩)
        have HL0 := Lib.hid (show (catR (encL E 0)).length = 0 from rfl)
        clear hN hin hb
        go_wp2_with fail
        go_loopw [7] (fun kv wr => ∃ j : Nat, j ≤ k ∧ kv = .int .i64 j ∧ Hid (Backs w N l (catR (encL E j)).length wr)) (fun kv _ => k - (intOf kv).toNat)
        case atStart => exact ⟨0, Nat.zero_le _, rfl, Lib.hid (by rw [HL0.out]; exact HR0.out)⟩
        case round =>
          obtain ⟨j, hj, rfl, hR⟩ := hrel
          clear HR0
          by_cases hlt : j < k
          · obtain ⟨hin, hbw⟩ := hR.out
            have hne : wr.heap.size ≠ N := by have := hin.lt; omega
            obtain ⟨b, off, rfl, c0, c1, c2, c3, c4, c5⟩ := (HQ.out wr hbw).cells hlt
            obtain ⟨g1, g2, g3, g4, g5, g6⟩ := HFa.out j hlt
            obtain ⟨more, hm⟩ := HP.out j hlt
            have hdr : l.drop (catR (encL E j)).length = encA (D j) (U j) (I j) (keyI (F j)).toNat (T j) ++ more := by rw [hm, List.drop_left, HE.out j]
            have HRd := Lib.hid (fun w2 (h : Below wr.heap.size wr w2) => rdB_any w2 N l (catR (encL E j)).length (D j) (U j) (I j) (F j) (keyI (F j)).toNat (T j) more g1 g2 g3 g4 g5 g6 (hin.below h) hdr)
            have HTd := Lib.hid (fun w2 => show Calls Try.prog 18 #[askV (D j) (U j) (I j) (F j) (T j) 200] w2 (fun r w' => r = .returned (.int .u64 (toldA (D j) (U j) (F j))) ∧ Below w2.heap.size w2 w') from told_any w2 (D j) (U j) (I j) (F j) (T j) 200 g4)
            rw [← HE.out j] at HRd
            have HLn := Lib.hid (show (catR (encL E (j + 1))).length = (catR (encL E j)).length + (E j).length by rw [HCr.out j, List.length_append])
            have HK := Lib.hid hlt
            have HBw := Lib.hid hbw
            obtain ⟨p', hp'⟩ : ∃ p', (catR (encL E (j + 1))).length = p' := ⟨_, rfl⟩
            have HP2 := Lib.hid hp'
            rw [hp'] at HLn
            clear hp'
            have i1 : (j : Int) < (k : Int) := by omega
            have i5 : IntKind.i64.wrap ((j : Int) + 1) = (j : Int) + 1 := IntWalk.i64_in _ (by omega)
            have hAt := ask_at wr (D j) (U j) (I j) (F j) (T j) 200 _ rfl
            generalize toldA (D j) (U j) (F j) = tv at *
            generalize (catR (encL E j)).length = p at *
            generalize (E j).length = en at *
            generalize D j = d at *
            generalize U j = u at *
            generalize I j = i at *
            generalize F j = f at *
            generalize T j = t at *
            generalize M j = m at *
            clear g1 g2 g3 g4 g5 g6 hin hbw hR hm hdr
            have hsf := fun (w : World) (a : Addr) (m : Mode) (k : Nat) => run_store_f64 (P := Try.prog) (w := w) (a := a) (m := m) k
            go_upto_region 18 with fail
            generalize wr.alloc (askO d u i f t 200) = W1 at *
            obtain ⟨a0, a1, a2, a3, a4, a5, hb1⟩ := hAt
            have hBw : Below wr.heap.size wr W1.drew := hb1.drew
            have hk : W1.drew.cell? ⟨wr.heap.size, 0, none⟩ = some (.int .i64 d) ∧ W1.drew.cell? ⟨wr.heap.size, 1, none⟩ = some (.int .u64 u) ∧ W1.drew.cell? ⟨wr.heap.size, 2, none⟩ = some (.int .i64 i) ∧ W1.drew.cell? ⟨wr.heap.size, 3, none⟩ = some (.float .f64 f) ∧ W1.drew.cell? ⟨wr.heap.size, 4, none⟩ = some (.string t) ∧ W1.drew.cell? ⟨wr.heap.size, 5, none⟩ = some (.int .i64 200) := ⟨by simpa using a0, by simpa using a1, by simpa using a2, by simpa using a3, by simpa using a4, by simpa using a5⟩
            have HNe := Lib.hid hne
            clear hb1 c0 c1 c2 c3 c4 c5 a0 a1 a2 a3 a4 a5 hne
            go_region_held3 (fun w' => w'.cell? ⟨wr.heap.size, 0, none⟩ = some (.int .i64 d) ∧ w'.cell? ⟨wr.heap.size, 1, none⟩ = some (.int .u64 u) ∧ w'.cell? ⟨wr.heap.size, 2, none⟩ = some (.int .i64 i) ∧ w'.cell? ⟨wr.heap.size, 3, none⟩ = some (.float .f64 f) ∧ w'.cell? ⟨wr.heap.size, 4, none⟩ = some (.string t) ∧ w'.cell? ⟨wr.heap.size, 5, none⟩ = some (.int .i64 200)) (with_reducible exact hk)
              (first
                | (go_at_call 18; refine (HTd.out _).mono ?_; rintro r w2 ⟨rfl, hb2⟩; have hk := box_on hb2 hk; have hBw := below_then hBw hb2; clear hb2)
                | (go_at_call 10; refine (HRd.out _ hBw).mono ?_; rintro r w3 ⟨rfl, hin3, hg3⟩; have hk := box_far hg3 HNe.out hk))
            all_goals
              have HI4 := Lib.hid (show InAt w3 N l p' 0 by rw [if_pos (by trivial)] at hin3; rw [HLn.out]; exact hin3)
              have HB4 := Lib.hid (below_grown (below_then HBw.out hBw) hg3 HNs.out)
              clear hin3 hg3 hBw hk
              go_wp2_with fail
              go_roundw
              case rel => exact ⟨j + 1, by have := HK.out; omega, by go_num, Lib.hid ⟨by rw [HP2.out]; exact HI4.out, HB4.out⟩⟩
              case measure => have := HK.out; simp [intOf]; omega
          · obtain rfl : j = k := by omega
            obtain ⟨hin, hbw⟩ := hR.out
            have HEn := Lib.hid (end_ok wr N l _ hin (by rw [HLl.out]; exact Nat.le_refl _))
            have HBw := Lib.hid hbw
            clear hin hbw hR
            go_wp2_with fail
            refine (HEn.out).mono ?_; rintro r w5 ⟨rfl, -, hb⟩
            have HB5 := Lib.hid (below_then HBw.out hb)
            clear hb
            go_wp2_with fail
            refine (HA.out _).mono ?_; rintro r w6 ⟨rfl, hb⟩
            have HB6 := Lib.hid (below_then HB5.out hb)
            clear hb
            go_wp2_with fail
            go_ret
            exact ⟨rfl, HB6.out⟩
set_option maxRecDepth 100000 in
theorem lifted (os : Os) (started : os.Started) (H : Type) (enc : TypeId × Value → H) :
    ReturnsInHanded {} Try.checked os 4 .any (Rows.bufBackSpec.pre6 enc Try.prog Try.f4 Rows.bufBackRow.domain false) (Rows.bufBackSpec.post enc Try.prog Try.f4 false true false false) := by
  refine returnsInHanded_of_change (C := Try.checked) own started (by kernel_rfl) Try.func4
    (ChangeSpec.witness6 (enc := enc) (C := Try.checked) false ⟨#[], #[.slice none 0 0], []⟩ 8 (by kernel_rfl) (by kernel_rfl) (by kernel_rfl) (by kernel_rfl)) ?_
  intro W base args ds gs before hval0 hW hcnd _
  have hval : ∀ (j : Nat) t v, Try.f4.params[j]? = some t → args[j]? = some v → Value.okWide Try.prog W .any base t v := hval0
  have hW' := hW
  obtain ⟨p, q, hA0, hV, rfl, hfz, hnd⟩ := hW
  have hA : DataW.TrodAll enc Try.prog W 0 (fun _ => true) true Try.f4.params.toList args.toList ds p := hA0
  rw [Try.params4] at hA hval
  obtain ⟨v0, vs0, d0, ds0, p0, q0, hargs, rfl, rfl, h0, r0⟩ := trodAll_cons hA
  obtain ⟨rfl, rfl, rfl⟩ := trodAll_nil r0
  obtain rfl : args = #[v0] := by cases args; simp_all
  obtain ⟨rfl, rfl⟩ := trodVars_none hV
  obtain ⟨a0, len0, cap0, rfl⟩ := okWide_slice Try.underlying23 (hval 0 23 v0 rfl rfl)
  have k0 := h0
  have lt0 : ∀ x ∈ p0, x.block < W.heap.size := by obtain ⟨m, hm⟩ := k0; exact DataW.trod_lt m _ _ _ hm
  obtain ⟨n0, D0, U0, I0, F0, T0, M0, w0⟩ : ∃ n D U I F T M, Asks W (.slice a0 len0 cap0) n D U I F T M := by
    obtain ⟨fuel, hf⟩ := h0
    obtain ⟨v, n, D, U, I, F, T, M, hcs, hw⟩ := asks_of hf
    have hv : v = .slice a0 len0 cap0 := by simpa [Value.cells] using hcs.symm
    subst hv
    exact ⟨n, D, U, I, F, T, M, hw⟩
  clear hA0 hval0
  refine (walk (.slice a0 len0 cap0) n0 D0 U0 I0 F0 T0 M0 W w0).mono fun e W' ⟨he, bel⟩ => ?_
  subst he
  exact ⟨_, rfl, _, _, _, [], _, [], hW', trodAll_mk1 (shut_bool Try.underlying4 _), (trodAll_cons_mk (Below.trod laidOut (by kernel_rfl) (of_decide_eq_true (by kernel_rfl)) k0 bel lt0) trodAll_mk0), rfl, bel.frame _, fun h => by cases h⟩

theorem over : Rows.bufBackRow.holds Try.pinned (OpenSpec.ofChange Rows.bufBackSpec) :=
  OpenClaim.holds_of_wide 4 Try.f4 rfl rfl rfl rfl rfl rfl rfl ⟨rfl, rfl, rfl, rfl, rfl⟩ rfl rfl rfl rfl rfl (by kernel_rfl) Try.func4 (by kernel_rfl)
    (of_decide_eq_true (by kernel_rfl)) (by unfold Func.isWrapper; first | (rw [if_pos (by decide +kernel)]; kernel_rfl) | (rw [if_neg (by decide +kernel)]; exact ⟨rfl, rfl⟩))
    (fun os started H enc _ => lifted os started H enc)
end Go.Proofs.Ytmganccajcpcbaa.bufBack
namespace Go.Proofs.Ytmganccajcpcbaa
/-- The statement. -/
theorem bufBack_holds : Rows.BufBackSaid := bufBack.over
#print axioms bufBack_holds
end Go.Proofs.Ytmganccajcpcbaa
