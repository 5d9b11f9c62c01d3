/- LatticeCovers: for any views, sizes and set the statement's function returns true and changes nothing that was there. No condition. -/
import Derived.Test.YtdopgpijbilffaaRows
import Derived.Test.YtdopgpijbilffaaLatp
import Derived.WalkKit
import Derived.ProofKit
import Derived.OpenShut
import Derived.Below
namespace Go.Proofs.Ytdopgpijbilffaa.latticeCovers
set_option maxRecDepth 100000
open Go.ChangeShapes Go.WideShapes Go.ChangeAt Go.RowKit
set_option linter.unusedVariables false
theorem own : ownKnob Try.prog.godebug = none := by kernel_rfl
theorem laidOut : laidOutB Try.prog = true := by kernel_rfl
theorem nat_of32 {x : Int} (h : (Lit.int .u32 x).wf = true) : ∃ n : Nat, x = n ∧ n < 4294967296 := by
  have := wf_u32 h
  exact ⟨x.toNat, by omega, by omega⟩
set_option maxHeartbeats 8000000 in
theorem walk (a0 : Option Addr) (len0 cap0 : Nat) (z0 : List Int) (a1 : Option Addr) (len1 cap1 : Nat) (z1 : List Int) (a2 : Int) (w : World) (w0 : Given .u32 w (.slice a0 len0 cap0) z0) (w1 : Given .i64 w (.slice a1 len1 cap1) z1) (w2 : (Lit.int .u32 a2).wf = true) :
    Calls Try.prog 5 #[.slice a0 len0 cap0, .slice a1 len1 cap1, .int .u32 a2] w fun e w' => e = .returned (.bool true) ∧ Below w.heap.size w w' := by
  have HA := Lib.hid (fun w => awake17_any w)
  have hlen := len_max w0
  have hlen1 := len_max w1
  obtain ⟨l, hm, hb, hl⟩ := given_msk w0
  obtain rfl : l.length = len0 := by omega
  obtain rfl : z1.length = len1 := by omega
  obtain ⟨need, rfl, hn⟩ := nat_of32 w2
  have HM := Lib.hid hm
  have HZ1 := Lib.hid (show Szs w (.slice a1 z1.length cap1) z1 from w1.1)
  have HBd := Lib.hid hb
  clear w0 w1 w2 hlen hlen1 hl hm hb
  have HB0 := Lib.hid (Below.refl w.heap.size w)
  by_cases h1 : 60 < l.length
  · have h2 : (60 : Int) < (l.length : Int) := by omega
    go_enter Try.func5, Try.ntmps5
    go_wp2_with fail
    refine (HA.out _).mono ?_; rintro e w1 ⟨rfl, hb⟩
    have HZ := Lib.hid (below_then HB0.out hb)
    clear hb
    go_wp2_with fail
    go_ret
    exact ⟨rfl, HZ.out⟩
  · have h2 : ¬ (60 : Int) < (l.length : Int) := by omega
    have HP := Lib.hid (pcover_any w _ _ l z1 need HM.out HZ1.out HBd.out hn (by omega))
    have HR := Lib.hid (fun w1 (hb1 : Below w.heap.size w w1) => rcoverC_any w1 _ _ l z1 need (HM.out.below hb1) (HZ1.out.below hb1) HBd.out hn (by omega))
    have HS := Lib.hid (fun w1 (hb1 : Below w.heap.size w w1) => psteps_any w1 _ _ l z1 (HM.out.below hb1) (HZ1.out.below hb1) HBd.out (by omega))
    have HRS := Lib.hid (fun w1 k (hb1 : Below w.heap.size w w1) => rcoverS_any w1 _ _ l z1 (l.getD k 0) (HM.out.below hb1) (HZ1.out.below hb1) HBd.out (HBd.out.getD k) (by omega))
    go_enter Try.func5, Try.ntmps5
    go_wp2_with fail
    refine Calls.mono HP.out ?_; rintro e w1 ⟨⟨r, rfl, hr⟩, hb1⟩
    have HB1 := Lib.hid hb1
    have HR1 := Lib.hid (HR.out w1 hb1)
    have HQ := Lib.hid hr
    clear hr hb1 HP HR
    go_wp2_with fail
    refine Calls.mono HR1.out ?_; rintro e w2 ⟨⟨r2, rfl, hr2⟩, rfl⟩
    obtain rfl := SmP.one HQ.out hr2
    have hrr : (r != r) = false := by simp
    have HS1 := Lib.hid (HS.out w1 HB1.out)
    clear hr2 HQ HR1 HS
    go_wp2_with fail
    refine Calls.mono HS1.out ?_; rintro e w3 ⟨⟨u, zs, rfl, hu, hzl, hz⟩, hb3⟩
    have HB3 := Lib.hid (below_then HB1.out hb3)
    have HU := Lib.hid hu
    have HX := Lib.hid (And.intro hzl hz)
    obtain ⟨ua, uc, rfl, -⟩ := hu
    rw [hzl] at HU ⊢
    have hll : ((l.length : Int) != (l.length : Int)) = false := by simp
    clear hb3 hzl hz HS1 HB1
    go_wp2_with fail
    go_loopw [8] (fun iv wr => ∃ k : Nat, k ≤ l.length ∧ iv = .int .i64 k ∧ Hid (Drew w3 wr)) (fun iv _ => l.length - (intOf iv).toNat)
    case atStart => exact ⟨0, Nat.zero_le _, rfl, Lib.hid (Drew.refl _)⟩
    case round =>
      obtain ⟨k, hk, rfl, HD⟩ := hrel
      by_cases hlt : k < l.length
      · have hlt' : (k : Int) < (l.length : Int) := by omega
        have HB4 := Lib.hid (below_then HB3.out HD.out.below)
        obtain ⟨b0, off, rfl, hc0⟩ := Msk.at (HM.out.below HB4.out) hlt
        obtain ⟨b1, off1, rfl, -, hc1⟩ := Ints.cell (HU.out.below HD.out.below) (i := k) (by rw [HX.out.1]; exact hlt)
        have HC := Lib.hid (show ∀ w5, Drew w3 w5 → Calls Try.prog 18 #[.slice (some ⟨b0, off, none⟩) l.length cap0, .slice a1 z1.length cap1, .int .u32 ((l.getD k 0 : Nat) : Int), .bool true] w5 fun e w' => e = .returned (.int .i64 (zs.getD k 0)) ∧ w' = w5 from fun w5 hd => by
          refine Calls.mono (HRS.out w5 k (below_then HB3.out hd.below)) ?_
          rintro e w6 ⟨⟨r3, rfl, hr3⟩, rfl⟩
          obtain rfl := SmP.one hr3 (HX.out.2 k hlt)
          exact ⟨rfl, rfl⟩)
        have HN := Lib.hid (fun n => HD.out.then (show Drew wr (wr.drewN n) from ⟨n, rfl⟩))
        clear HB4
        generalize zs.getD k 0 = zk at *
        generalize l.getD k 0 = x at *
        have hzz : (zk != zk) = false := by simp
        go_wp2_with fail
        go_quiet ((go_at_call 18; with_reducible exact Calls.quiet_of_same (HC.out _ (HN.out _))))
        have HD2 := Lib.hid (HN.out nq)
        go_wp2
        go_roundw
        case rel => exact ⟨k + 1, by omega, by go_num, HD2⟩
        case measure => simp [intOf]; omega
      · have hkn : k = l.length := by omega
        subst hkn
        have hlt' : ¬ (l.length : Int) < (l.length : Int) := by omega
        have HB4 := Lib.hid (below_then HB3.out HD.out.below)
        clear HRS HU HX HD
        go_wp2_with fail
        refine (HA.out _).mono ?_; rintro e w6 ⟨rfl, hb⟩
        have HZ := Lib.hid (below_then HB4.out hb)
        clear hb
        go_wp2_with fail
        go_ret
        exact ⟨rfl, HZ.out⟩
set_option maxRecDepth 100000 in
theorem lifted (os : Os) (started : os.Started) (H : Type) (enc : TypeId × Value → H) :
    ReturnsInHanded {} Try.checked os 5 .any (Rows.latticeCoversSpec.pre6 enc Try.prog Try.f5 Rows.latticeCoversRow.domain false) (Rows.latticeCoversSpec.post enc Try.prog Try.f5 false true false false) := by
  refine returnsInHanded_of_change (C := Try.checked) own started (by kernel_rfl) Try.func5
    (ChangeSpec.witness6 (enc := enc) (C := Try.checked) false ⟨#[], #[.slice none 0 0, .slice none 0 0, .int .u32 0], []⟩ 8 (by kernel_rfl) (by kernel_rfl) (by kernel_rfl) (by kernel_rfl)) ?_
  intro W base args ds gs before hval0 hW hcnd _
  have hval : ∀ (j : Nat) t v, Try.f5.params[j]? = some t → args[j]? = some v → Value.okWide Try.prog W .any base t v := hval0
  have hW' := hW
  obtain ⟨p, q, hA0, hV, rfl, hfz, hnd⟩ := hW
  have hA : DataW.TrodAll enc Try.prog W 0 (fun _ => true) true Try.f5.params.toList args.toList ds p := hA0
  rw [Try.params5] at hA hval
  obtain ⟨v0, vs0, d0, ds0, p0, q0, hargs, rfl, rfl, h0, r0⟩ := trodAll_cons hA
  obtain ⟨v1, vs1, d1, ds1, p1, q1, rfl, rfl, rfl, h1, r1⟩ := trodAll_cons r0
  obtain ⟨v2, vs2, d2, ds2, p2, q2, rfl, rfl, rfl, h2, r2⟩ := trodAll_cons r1
  obtain ⟨rfl, rfl, rfl⟩ := trodAll_nil r2
  obtain rfl : args = #[v0, v1, v2] := by cases args; simp_all
  obtain ⟨rfl, rfl⟩ := trodVars_none hV
  obtain ⟨a0, len0, cap0, rfl⟩ := okWide_slice Try.underlying23 (hval 0 23 v0 rfl rfl)
  have k0 := h0
  have lt0 : ∀ x ∈ p0, x.block < W.heap.size := by obtain ⟨m, hm⟩ := k0; exact DataW.trod_lt m _ _ _ hm
  obtain ⟨z0, w0⟩ : ∃ zs, Given .u32 W (.slice a0 len0 cap0) zs := by
    obtain ⟨fuel, hf⟩ := h0
    rcases open_ints Try.underlying23 Try.underlying22 (by kernel_rfl) hf with ⟨hcs, _⟩ | ⟨x, l, c, zs, hcs, _, hl, hm, hz, _, hcell, hwz⟩
    · simp [Value.cells] at hcs
      obtain ⟨rfl, rfl, rfl⟩ := hcs
      exact ⟨[], given_nil⟩
    · simp [Value.cells] at hcs
      obtain ⟨rfl, rfl, rfl⟩ := hcs
      exact ⟨_, given_row hl (by simpa using hz) hcell hwz⟩
  obtain ⟨a1, len1, cap1, rfl⟩ := okWide_slice Try.underlying34 (hval 1 34 v1 rfl rfl)
  have k1 := h1
  have lt1 : ∀ x ∈ p1, x.block < W.heap.size := by obtain ⟨m, hm⟩ := k1; exact DataW.trod_lt m _ _ _ hm
  obtain ⟨z1, w1⟩ : ∃ zs, Given .i64 W (.slice a1 len1 cap1) zs := by
    obtain ⟨fuel, hf⟩ := h1
    rcases open_ints Try.underlying34 Try.underlying3 (by kernel_rfl) hf with ⟨hcs, _⟩ | ⟨x, l, c, zs, hcs, _, hl, hm, hz, _, hcell, hwz⟩
    · simp [Value.cells] at hcs
      obtain ⟨rfl, rfl, rfl⟩ := hcs
      exact ⟨[], given_nil⟩
    · simp [Value.cells] at hcs
      obtain ⟨rfl, rfl, rfl⟩ := hcs
      exact ⟨_, given_row hl (by simpa using hz) hcell hwz⟩
  obtain ⟨a2, rfl, rfl, rfl, w2⟩ := open_int Try.underlying22 (hval 2 22 v2 rfl rfl) h2
  clear hA0 hval0
  refine (walk a0 len0 cap0 z0 a1 len1 cap1 z1 a2 W w0 w1 w2).mono fun e W' ⟨he, bel⟩ => ?_
  subst he
  exact ⟨_, rfl, _, _, _, [], _, [], hW', trodAll_mk1 (shut_bool Try.underlying4 _), (trodAll_cons_mk (Below.trod laidOut (by kernel_rfl) (of_decide_eq_true (by kernel_rfl)) k0 bel lt0) (trodAll_cons_mk (Below.trod laidOut (by kernel_rfl) (of_decide_eq_true (by kernel_rfl)) k1 bel lt1) (trodAll_cons_mk (shut_int Try.underlying22 w2) trodAll_mk0))), rfl, bel.frame _, fun h => by cases h⟩

theorem over : Rows.latticeCoversRow.holds Try.pinned (OpenSpec.ofChange Rows.latticeCoversSpec) :=
  OpenClaim.holds_of_wide 5 Try.f5 rfl rfl rfl rfl rfl rfl rfl ⟨rfl, rfl, rfl, rfl, rfl⟩ rfl rfl rfl rfl rfl (by kernel_rfl) Try.func5 (by kernel_rfl)
    (of_decide_eq_true (by kernel_rfl)) (by unfold Func.isWrapper; first | (rw [if_pos (by decide +kernel)]; kernel_rfl) | (rw [if_neg (by decide +kernel)]; exact ⟨rfl, rfl⟩))
    (fun os started H enc _ => lifted os started H enc)
end Go.Proofs.Ytdopgpijbilffaa.latticeCovers
namespace Go.Proofs.Ytdopgpijbilffaa
/-- The statement. -/
theorem latticeCovers_holds : Rows.LatticeCoversSaid := latticeCovers.over
#print axioms latticeCovers_holds
end Go.Proofs.Ytdopgpijbilffaa

