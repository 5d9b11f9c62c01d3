/- The two tables of math/bits: what the rows' condition gives, and that a world meets it. -/
import Derived.Test.YtflhicfbojmjbaaDoorFlon
namespace Go.Proofs.YtflhicfbojmjbaaDoor
set_option maxRecDepth 100000
open Go.RowKit Go.ChangeShapes Go.WideShapes Go.ChangeAt
set_option linter.unusedVariables false
abbrev laid3 : List (String × DataW Unit) := [("math/bits.deBruijn32tab", Rows.laid_math_bits_deBruijn32tab), ("math/bits.deBruijn64tab", Rows.laid_math_bits_deBruijn64tab)]
theorem gTab64 : Tryd.prog.globalNamed "math/bits.deBruijn64tab" = some 2 := by kernel_rfl
theorem tTab64 : (Tryd.prog.globals[2]?).map (·.type) = some 118 := by kernel_rfl
theorem laidMet_tail {P : Program} {name : String} {d : DataW Unit} {rest : List (String × DataW Unit)} {W : World} (h : laidMet P ((name, d) :: rest) W) : laidMet P rest W := by
  obtain ⟨ps, ⟨g, t, cs, fuel, p, q, hg, ht, hv, hd, h1, h2⟩, hn, hall⟩ := h
  subst h2
  exact ⟨q, h1, (List.nodup_append.1 hn).2.1, fun b off hm => hall b off (List.mem_append_right _ hm)⟩
def tabInts64 : List Int := [0, 1, 56, 2, 57, 49, 28, 3, 61, 58, 42, 50, 38, 29, 17, 4, 62, 47, 59, 36, 45, 43, 51, 22, 53, 39, 33, 30, 24, 18, 12, 5, 63, 55, 48, 27, 60, 41, 37, 16, 46, 35, 44, 21, 52, 32, 23, 11, 54, 26, 40, 15, 34, 20, 31, 10, 25, 14, 19, 9, 13, 8, 7, 6]
theorem tab_of3 {W : World} (h : laidMetH Tryd.prog laid3 W) : Tab W := by
  rw [MakeChecks.laidMetH_plain _ _ _ (by kernel_rfl)] at h
  have h1 : Lib.TabIs Tryd.prog W "math/bits.deBruijn32tab" .u8 tabInts :=
    Lib.tabIs_of_head (n := 32) gTab tTab Tryd.underlying98 Tryd.underlying5 (by kernel_rfl) (by kernel_rfl) h
  intro j hj
  have hj2 : j < tabInts.length := hj
  rw [h1.cell gTab j hj2]
  have key : ∀ k : Fin 32, tabInts.getD k.val 0 = ((Lib.deBruijn32tab.getD k.val 0 : Nat) : Int) := by decide
  rw [key ⟨j, hj⟩]
theorem tab64_of3 {W : World} (h : laidMetH Tryd.prog laid3 W) : Tab64 W := by
  rw [MakeChecks.laidMetH_plain _ _ _ (by kernel_rfl)] at h
  have h1 : Lib.TabIs Tryd.prog W "math/bits.deBruijn64tab" .u8 tabInts64 :=
    Lib.tabIs_of_head (n := 64) (rest := []) gTab64 tTab64 Tryd.underlying118 Tryd.underlying5 (by kernel_rfl) (by kernel_rfl) (laidMet_tail h)
  intro j hj
  have hj2 : j < tabInts64.length := hj
  rw [h1.cell gTab64 j hj2]
  have key : ∀ k : Fin 64, tabInts64.getD k.val 0 = ((Lib.deBruijn64tab.getD k.val 0 : Nat) : Int) := by decide
  rw [key ⟨j, hj⟩]
theorem door_met3 (os : Os) (args : Array Value) : laidMetH Tryd.prog laid3 ((World.doorLaid Tryd.prog 800 os).forCall (fun _ _ => 0) ⟨#[], args, []⟩).memory :=
  laidMetH_of_parts3 (fuel := 8) (laidMet_of_run' 8 (by kernel_rfl) (by kernel_rfl)) (by kernel_rfl) (by kernel_rfl)
end Go.Proofs.YtflhicfbojmjbaaDoor
