/- The reference of layer 2: is a list the trim one of a number; how many bits; powers of two. -/
import Derived.Test.YtdnbjaeeebodkaaGreatNumw
import Derived.Deep.RegionHeld3
namespace Go.Proofs.YtdnbjaeeebodkaaGreat
set_option maxRecDepth 100000
open Go.RowKit
set_option linter.unusedVariables false
set_option maxHeartbeats 1000000 in
theorem two_num (n : Int) (N : Nat) (hn : Hid (n = (N : Int))) (w : World) (hN : N ≤ 1000000) : Calls Tryz.prog 107 #[.int .i64 n] w (MadeNum w (2 ^ N)) := by
  have hk0 := Lib.hid (Kept.start w (.bool false) (.slice none 0 0) 108)
  go_enter Tryz.func107, Tryz.ntmps107
  go_wp2_with fail
  refine (nat_any 2 _ (by decide) (by decide)).mono ?_; rintro e w1 ⟨q, rfl, hq, hb1⟩
  have HP := Lib.hid (num_power 8 N q 2 n N w1 (Nat.le_refl _) hn (by omega) (by omega) hq (sized8 (by decide) (by decide)))
  have HK := Lib.hid (hk0.out.call hb1)
  clear hk0 hb1 hq
  go_wp2_with fail
  refine (HP.out).mono ?_; rintro e w2 ⟨r, rfl, hr, hb2⟩
  have hk := HK.out.call hb2
  obtain ⟨rn, rp, rl, rc, rfl⟩ := hr.shape
  obtain ⟨⟨x1, hx1⟩, ⟨y1, hy1⟩, hf1, hf2⟩ := hk.cells
  have hN2 := hk.num hr
  have hE := (hk.store (.bool rn) (.slice rp rl rc)).1
  clear hk hr hb2 HK HP
  go_wp2_with fail
  exact bodyPost_ret (v := .agg #[.bool rn, .slice rp rl rc]) (by simp [results, Tryz.results107, go_sem, hx1, hy1]) rfl ⟨_, rfl, hN2, hE⟩
theorem is_cmp {z : Int} {n : Nat} (hs : Sized n z) (hn : n ≤ 1099511627770) (w1 : World) (p q : Value) (hp : IsNum w1 p z) (hq : IsNum w1 q z) : Calls Tryz.prog 109 #[p, q] w1 (Compared w1 0) := by
  have := num_cmp p q z z n w1 hp hq hs hs hn
  rwa [cmpI_eq rfl] at this
end Go.Proofs.YtdnbjaeeebodkaaGreat
