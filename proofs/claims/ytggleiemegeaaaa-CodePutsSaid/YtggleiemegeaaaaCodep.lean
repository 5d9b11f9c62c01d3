/- What the laws over two things share. -/
import Derived.Test.YtggleiemegeaaaaCodeo
import Derived.Test.YtggleiemegeaaaaCodel
import Derived.ChangeSlices
import Derived.Lib.SmallJoins
namespace Go.Proofs.Ytggleiemegeaaaa
set_option maxRecDepth 100000
open Go.RowKit Go.ChangeShapes
set_option linter.unusedVariables false
theorem trod_float {H : Type} {enc : TypeId × Value → H} {P : Program} {w : World} {base : Nat} {spare : Nat → Bool} {held : Bool} {fuel : Nat} {t : TypeId} {cs : List Value} {x : DataW H × List MemPlace} {k : FloatKind} (ht : P.underlying t = some (.float k)) (h : DataW.trod enc P w base spare held fuel t cs = some x) : ∃ n, cs = [.float k n] ∧ (Lit.float k n).wf = true := by
  cases fuel with
  | zero => simp [DataW.trod] at h
  | succ n =>
    unfold DataW.trod at h
    rw [ht] at h
    split at h <;> simp_all
theorem w64_of {a : Nat} (h : (Lit.float .f64 a).wf = true) : W64 a := by
  simpa [Lit.wf, W64] using h
theorem u64_of {a : Int} (h : (Lit.int .u64 a).wf = true) : ∃ n : Nat, a = n ∧ n < 18446744073709551616 := by
  simp [Lit.wf, IntKind.min, IntKind.max, IntKind.signed, IntKind.bits] at h
  exact ⟨a.toNat, by omega, by omega⟩
theorem i64_of {a : Int} (h : (Lit.int .i64 a).wf = true) : -9223372036854775808 ≤ a ∧ a ≤ 9223372036854775807 := by
  simp [Lit.wf, IntKind.min, IntKind.max, IntKind.signed, IntKind.bits] at h
  omega
theorem bytesLess_cons (a b : UInt8) (x y : List UInt8) : Op.bytesLess (a :: x) (b :: y) = (a < b || (a == b && Op.bytesLess x y)) := by rw [Op.bytesLess]
theorem less_bytes : ∀ (a b : List UInt8), lessL (a.map fun c => (c.toNat : Int)) (b.map fun c => (c.toNat : Int)) = Op.bytesLess a b
  | [], [] => rfl
  | [], _ :: _ => rfl
  | _ :: _, [] => rfl
  | x :: a, y :: b => by
    rw [List.map_cons, List.map_cons, lessL_cons, less_bytes a b, bytesLess_cons]
    have e1 : ((x.toNat : Int) < (y.toNat : Int)) ↔ x < y := by rw [UInt8.lt_iff_toNat_lt]; omega
    have e2 : ((y.toNat : Int) < (x.toNat : Int)) ↔ y < x := by rw [UInt8.lt_iff_toNat_lt]; omega
    simp only [e1, e2]
    by_cases h : x < y
    · simp [h]
    · by_cases h2 : y < x
      · have hne : (x == y) = false := by
          rw [beq_eq_false_iff_ne]; rintro rfl; exact UInt8.lt_irrefl _ h2
        simp [h, h2, hne]
      · have he : x = y := UInt8.le_antisymm (UInt8.not_lt.1 h2) (UInt8.not_lt.1 h)
        subst he
        simp [UInt8.lt_irrefl]
theorem less_ofS (s t : ByteArray) : lessL (ofS s) (ofS t) = Op.bytesLess s.toList t.toList := by
  rw [ByteArray.toList_eq, ByteArray.toList_eq]; exact less_bytes _ _
/-- A thing in a box of its own. -/
def Four4 (w : World) (M : Nat) (x n : Int) (f : Nat) (s : ByteArray) : Prop :=
  w.cell? ⟨M, 0, none⟩ = some (.int .u64 x) ∧ w.cell? ⟨M, 1, none⟩ = some (.int .i64 n) ∧ w.cell? ⟨M, 2, none⟩ = some (.float .f64 f) ∧ w.cell? ⟨M, 3, none⟩ = some (.string s)
theorem cell_on {w w' : World} {p : Addr} {v : Value} (hb : Below w.heap.size w w') (h : w.cell? p = some v) : w'.cell? p = some v := by
  rw [hb.cell (World.block_lt_of_cell? w p h)]; exact h
theorem eight_later {w w' : World} (hb : Below w.heap.size w w') {p0 p1 p2 p3 q0 q1 q2 q3 : Addr} {a0 a1 a2 a3 b0 b1 b2 b3 : Value}
    (h : w.cell? p0 = some a0 ∧ w.cell? p1 = some a1 ∧ w.cell? p2 = some a2 ∧ w.cell? p3 = some a3 ∧ w.cell? q0 = some b0 ∧ w.cell? q1 = some b1 ∧ w.cell? q2 = some b2 ∧ w.cell? q3 = some b3) :
    w'.cell? p0 = some a0 ∧ w'.cell? p1 = some a1 ∧ w'.cell? p2 = some a2 ∧ w'.cell? p3 = some a3 ∧ w'.cell? q0 = some b0 ∧ w'.cell? q1 = some b1 ∧ w'.cell? q2 = some b2 ∧ w'.cell? q3 = some b3 :=
  ⟨cell_on hb h.1, cell_on hb h.2.1, cell_on hb h.2.2.1, cell_on hb h.2.2.2.1, cell_on hb h.2.2.2.2.1, cell_on hb h.2.2.2.2.2.1, cell_on hb h.2.2.2.2.2.2.1, cell_on hb h.2.2.2.2.2.2.2⟩
theorem four_later {w w' : World} (hb : Below w.heap.size w w') {p0 p1 p2 p3 : Addr} {a0 a1 a2 a3 : Value}
    (h : w.cell? p0 = some a0 ∧ w.cell? p1 = some a1 ∧ w.cell? p2 = some a2 ∧ w.cell? p3 = some a3) :
    w'.cell? p0 = some a0 ∧ w'.cell? p1 = some a1 ∧ w'.cell? p2 = some a2 ∧ w'.cell? p3 = some a3 :=
  ⟨cell_on hb h.1, cell_on hb h.2.1, cell_on hb h.2.2.1, cell_on hb h.2.2.2⟩
end Go.Proofs.Ytggleiemegeaaaa
