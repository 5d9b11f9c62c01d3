/- Contracts that the law leans on, pruned and merged: Aggf. -/
import Derived.Test.YtigikgphipebiaaGreatDoorJa23
import Derived.Test.YtigikgphipebiaaGreatDoorJa26
import Derived.Test.YtigikgphipebiaaGreatDoorJa28
import Derived.Test.YtigikgphipebiaaGreatDoorJa29
/- Layer 14: the reference's Join. -/
namespace Go.Proofs.YtigikgphipebiaaGreatDoor
set_option maxRecDepth 100000
open Go.RowKit
set_option linter.unusedVariables false
theorem snoc_jw {k j : Nat} (C : Wh → Prop) {ps : List (Value × Wh)} {p : Value × Wh} (hk : ps.length = k) (hj : j < k + 1) (h : j < k → C (wg (ps.map Prod.snd) j)) (h' : j = k → C p.2) : C (wg ((ps ++ [p]).map Prod.snd) j) := by
  rw [wg_get (by simp; omega)]
  by_cases e : j < k
  · have h2 := h e
    rw [wg_get (by simp; omega)] at h2
    have e1 : ((ps ++ [p]).map Prod.snd)[j]'(by simp; omega) = (ps.map Prod.snd)[j]'(by simp; omega) := by simp [List.getElem_append_left (show j < (ps.map Prod.snd).length by simp; omega)]
    rw [e1]
    exact h2
  · have e2 : j = k := by omega
    have h2 := h' e2
    subst e2
    simpa [hk] using h2
theorem snoc_jr {k j : Nat} (C : Re → Prop) {ps : List (Value × Re)} {p : Value × Re} (hk : ps.length = k) (hj : j < k + 1) (h : j < k → C (rg (ps.map Prod.snd) j)) (h' : j = k → C p.2) : C (rg ((ps ++ [p]).map Prod.snd) j) := by
  rw [rg_get (by simp; omega)]
  by_cases e : j < k
  · have h2 := h e
    rw [rg_get (by simp; omega)] at h2
    have e1 : ((ps ++ [p]).map Prod.snd)[j]'(by simp; omega) = (ps.map Prod.snd)[j]'(by simp; omega) := by simp [List.getElem_append_left (show j < (ps.map Prod.snd).length by simp; omega)]
    rw [e1]
    exact h2
  · have e2 : j = k := by omega
    have h2 := h' e2
    subst e2
    simpa [hk] using h2
theorem full_ex : ∀ (k n : Nat), n < 4294967296 ^ k → ∃ a, Wd a ∧ a.length = k ∧ wv a = n
  | 0, n, h => ⟨[], Wd.nil, rfl, by simp at h; subst h; rfl⟩
  | k + 1, n, h => by
    have hp : 0 < 4294967296 ^ k := Nat.pos_of_ne_zero (by simp)
    obtain ⟨a, h1, h2, h3⟩ := full_ex k (n % 4294967296 ^ k) (Nat.mod_lt _ hp)
    have hd : n / 4294967296 ^ k < 4294967296 := Nat.div_lt_of_lt_mul (by rw [Nat.pow_succ] at h; exact h)
    have hm := Nat.mod_add_div n (4294967296 ^ k)
    generalize n / 4294967296 ^ k = q at *
    refine ⟨a ++ [(q : Int)], h1.snoc (by omega) (by omega), by simp [h2], ?_⟩
    · rw [wv_snoc, h3, h2]
      have e : ((4294967296 ^ k : Nat) : Int) = 4294967296 ^ k := by rw [Int.natCast_pow]; rfl
      rw [← e, Int.mul_comm, ← Int.natCast_mul, ← Int.natCast_add, hm]
theorem tidy_ex : ∀ (k n : Nat), n < 4294967296 ^ k → ∃ a, Wd a ∧ Tidy a ∧ wv a = n
  | 0, n, h => ⟨[], Wd.nil, .inl rfl, by simp at h; subst h; rfl⟩
  | k + 1, n, h => by
    by_cases hn : n < 4294967296 ^ k
    · exact tidy_ex k n hn
    · have hp : 0 < 4294967296 ^ k := Nat.pos_of_ne_zero (by simp)
      obtain ⟨a, h1, h2, h3⟩ := full_ex k (n % 4294967296 ^ k) (Nat.mod_lt _ hp)
      have hd : n / 4294967296 ^ k < 4294967296 := Nat.div_lt_of_lt_mul (by rw [Nat.pow_succ] at h; exact h)
      have hd0 : 0 < n / 4294967296 ^ k := Nat.div_pos (by omega) hp
      have hm := Nat.mod_add_div n (4294967296 ^ k)
      generalize n / 4294967296 ^ k = q at *
      refine ⟨a ++ [(q : Int)], h1.snoc (by omega) (by omega), .inr (by simp; omega), ?_⟩
      · rw [wv_snoc, h3, h2]
        have e : ((4294967296 ^ k : Nat) : Int) = 4294967296 ^ k := by rw [Int.natCast_pow]; rfl
        rw [← e, Int.mul_comm, ← Int.natCast_mul, ← Int.natCast_add, hm]
theorem enc_ex {f : Nat} {t : Int} (h : Fits t) : ∃ l, IsEnc f t l := by
  have h1 : ((t.natAbs : Nat) : Int) < 4294967296 ^ 70 := fits_words (K := 70) (by unfold Fits at h; omega)
  have h2 : t.natAbs < 4294967296 ^ 70 := by
    have e : ((4294967296 ^ 70 : Nat) : Int) = 4294967296 ^ 70 := by rw [Int.natCast_pow]; rfl
    rw [← e] at h1
    exact Int.ofNat_lt.1 h1
  obtain ⟨a, a1, a2, a3⟩ := tidy_ex 70 _ h2
  exact ⟨_, a, a1, a2, a3, a2.wlen a1 (by rw [a3]; exact h1), rfl⟩
theorem read14 {l : List Int} {w w' : World} {e : Ending} (h : RReadP5 l w e w') : ∃ (b0 b1 b2 b3 b4 nb : Bool) (p : Option Addr) (n c : Nat), e = .returned (.tuple #[.agg #[.bool b0, .bool b1, .bool b2, .bool b3, .bool b4, .bool nb, .slice p n c], .int .i64 (errN l)]) ∧ (errN l = 0 → SumV w' (.agg #[.bool b0, .bool b1, .bool b2, .bool b3, .bool b4, .bool nb, .slice p n c]) (readF l) (readT l)) ∧ Below w.heap.size w w' := by
  rcases h with ⟨h0, rfl, hb⟩ | ⟨h0, v, rfl, ⟨nb, p, n, c, rfl, h2, h3⟩, hb⟩
  · exact ⟨_, _, _, _, _, _, none, 0, 0, rfl, fun q => absurd q h0, hb⟩
  · exact ⟨_, _, _, _, _, nb, p, n, c, by rw [h0]; rfl, fun _ => ⟨nb, p, n, c, rfl, h2, h3⟩, hb⟩
theorem set4_ws {W : World} {R B : Nat} {k n k' n' : Int} {I N I' N' v : Value} {T : TypeId} {ps : List (Value × Wh)} (h : W.heap[R]? = some (.cells (boxV k n I N) T (0, 0))) (h1 : T ≠ 75) (h2 : T ≠ 27) (hw : WsOwn W B v ps) : WsOwn (set4 W R k' n' I' N') B v ps := by
  have e1 : (W.setCell ⟨R, 0, none⟩ (.int .u64 k')).heap[R]? = some (.cells (boxV k' n I N) T (0, 0)) := by simp [World.setCell, Array.getElem?_modify, h]
  have e2 : ((W.setCell ⟨R, 0, none⟩ (.int .u64 k')).setCell ⟨R, 1, none⟩ (.int .i64 n')).heap[R]? = some (.cells (boxV k' n' I N) T (0, 0)) := by simp [World.setCell, Array.getElem?_modify, h]
  exact (((hw.setbox h h1 h2).setbox e1 h1 h2).setbox e2 h1 h2).setbox (box_set2 (u := I') e2) h1 h2
theorem set4_rs {W : World} {R B : Nat} {k n k' n' : Int} {I N I' N' v : Value} {T : TypeId} {ps : List (Value × Re)} (h : W.heap[R]? = some (.cells (boxV k n I N) T (0, 0))) (h1 : T ≠ 63) (h2 : T ≠ 5) (hw : RsOwn W B v ps) : RsOwn (set4 W R k' n' I' N') B v ps := by
  have e1 : (W.setCell ⟨R, 0, none⟩ (.int .u64 k')).heap[R]? = some (.cells (boxV k' n I N) T (0, 0)) := by simp [World.setCell, Array.getElem?_modify, h]
  have e2 : ((W.setCell ⟨R, 0, none⟩ (.int .u64 k')).setCell ⟨R, 1, none⟩ (.int .i64 n')).heap[R]? = some (.cells (boxV k' n' I N) T (0, 0)) := by simp [World.setCell, Array.getElem?_modify, h]
  exact (((hw.setbox h h1 h2).setbox e1 h1 h2).setbox e2 h1 h2).setbox (box_set2 (u := I') e2) h1 h2
theorem rj_yes {a b c : Ce} {I N : Value} {w w' : World} (h : errJ a b = 0) (hm : CeM w' I N c) (hj : JC a b c) (hb : Below w.heap.size w w') : RJ14 a b w (.returned (.tuple #[CeV c I N, .int .i64 0])) w' :=
  ⟨c, I, N, by rw [h]; rfl, hm, fun _ => hj, fun q => absurd h q, hb⟩
theorem grown12 {w w' : World} {v : Value} {N P Q M c : Nat} {j k l m : Nat} (hg : w.grownBy w' v.ownBlock) (hlt : ∀ g, v.ownBlock = some g → g < N) (hM : N ≤ M) (hP : N ≤ P) (hQ : N ≤ Q) {v0 v1 v2 v3 v4 v5 v6 v7 v8 v9 v10 v11 v12 : Value}
    (h : w.cell? ⟨M, 0, none⟩ = some v0 ∧ w.cell? ⟨M, 1, none⟩ = some v1 ∧ w.cell? ⟨M, 2, none⟩ = some v2 ∧ w.cell? ⟨M, 3, none⟩ = some v3 ∧ w.cell? ⟨M, 4, none⟩ = some v4 ∧ w.cell? ⟨M, 5, none⟩ = some v5 ∧ w.cell? ⟨M, 6, none⟩ = some v6 ∧ w.cell? ⟨P, j, none⟩ = some v7 ∧ w.cell? ⟨P, k, none⟩ = some v8 ∧ w.cell? ⟨Q, l, none⟩ = some v9 ∧ w.cell? ⟨Q, m, none⟩ = some v10 ∧ w.cell? ⟨c, 3, none⟩ = some v11) (hc : w'.cell? ⟨c, 3, none⟩ = some v12) :
    w'.cell? ⟨M, 0, none⟩ = some v0 ∧ w'.cell? ⟨M, 1, none⟩ = some v1 ∧ w'.cell? ⟨M, 2, none⟩ = some v2 ∧ w'.cell? ⟨M, 3, none⟩ = some v3 ∧ w'.cell? ⟨M, 4, none⟩ = some v4 ∧ w'.cell? ⟨M, 5, none⟩ = some v5 ∧ w'.cell? ⟨M, 6, none⟩ = some v6 ∧ w'.cell? ⟨P, j, none⟩ = some v7 ∧ w'.cell? ⟨P, k, none⟩ = some v8 ∧ w'.cell? ⟨Q, l, none⟩ = some v9 ∧ w'.cell? ⟨Q, m, none⟩ = some v10 ∧ w'.cell? ⟨c, 3, none⟩ = some v12 := by
  obtain ⟨h0, h1, h2, h3, h4, h5, h6, h7, h8, h9, h10, -⟩ := h
  exact ⟨cell_grown14 hg hlt hM h0, cell_grown14 hg hlt hM h1, cell_grown14 hg hlt hM h2, cell_grown14 hg hlt hM h3, cell_grown14 hg hlt hM h4, cell_grown14 hg hlt hM h5, cell_grown14 hg hlt hM h6, cell_grown14 hg hlt hP h7, cell_grown14 hg hlt hP h8, cell_grown14 hg hlt hQ h9, cell_grown14 hg hlt hQ h10, hc⟩
theorem row7 {w : World} {P : Nat} {T : TypeId} {a b c d e f g : Value} (h : w.heap[P]? = some (.cells #[a, b, c, d, e, f, g] T (0, 0))) : w.cell? ⟨P, 0, none⟩ = some a ∧ w.cell? ⟨P, 1, none⟩ = some b ∧ w.cell? ⟨P, 2, none⟩ = some c ∧ w.cell? ⟨P, 3, none⟩ = some d ∧ w.cell? ⟨P, 4, none⟩ = some e ∧ w.cell? ⟨P, 5, none⟩ = some f ∧ w.cell? ⟨P, 6, none⟩ = some g := by
  refine ⟨by simp [World.cell?, h], by simp [World.cell?, h], by simp [World.cell?, h], by simp [World.cell?, h], by simp [World.cell?, h], by simp [World.cell?, h], by simp [World.cell?, h]⟩
set_option maxHeartbeats 16000000 in
theorem rjoin14_any (w : World) (a b : Ce) (I N I' N' : Value) (h : CeM w I N a) (h' : CeM w I' N' b) (ha : CeW a) (hb : CeW b) (hla : lightC a = true) (hlb : lightC b = true) :
    Calls Tryz.prog 21 #[CeV a I N, CeV b I' N'] w (RJ14 a b w) := by
  have hb1 := below_one w (CeO a I N)
  have hb2 := below_one (w.alloc (CeO a I N)) (CeO b I' N')
  have hb3 := below_one ((w.alloc (CeO a I N)).alloc (CeO b I' N')) (.cells #[.int .u64 0, .int .i64 0, .slice none 0 0, .slice none 0 0] 41)
  have HB0 := Lib.hid (below_then (below_then hb1 hb2) hb3)
  have HX := Lib.hid (((boxC_new w a I N).below hb2).below hb3)
  have hx2 := (boxC_new (w.alloc (CeO a I N)) b I' N').below hb3
  rw [show (w.alloc (CeO a I N)).heap.size = w.heap.size + 1 by simp] at hx2
  have HX2 := Lib.hid hx2
  have hx3 : (((w.alloc (CeO a I N)).alloc (CeO b I' N')).alloc (.cells #[.int .u64 0, .int .i64 0, .slice none 0 0, .slice none 0 0] 41)).heap[w.heap.size + 1 + 1]? = some (.cells (boxV 0 0 (.slice none 0 0) (.slice none 0 0)) 41 (0, 0)) := by
    have := heap_alloc_new ((w.alloc (CeO a I N)).alloc (CeO b I' N')) (.cells #[.int .u64 0, .int .i64 0, .slice none 0 0, .slice none 0 0] 41)
    rwa [show ((w.alloc (CeO a I N)).alloc (CeO b I' N')).heap.size = w.heap.size + 1 + 1 by simp] at this
  have HX3 := Lib.hid hx3
  have HI := Lib.hid (h.i.below HB0.out)
  have HN := Lib.hid (h.n.below HB0.out)
  have HI' := Lib.hid (h'.i.below HB0.out)
  have HN' := Lib.hid (h'.n.below HB0.out)
  have HWa := Lib.hid ha
  have HWb := Lib.hid hb
  have HLa := Lib.hid (light_yes.1 hla)
  have HLb := Lib.hid (light_yes.1 hlb)
  obtain ⟨⟨p, k1, rfl⟩, p2, k2, rfl⟩ := h.slices
  obtain ⟨⟨p', k1', rfl⟩, p2', k2', rfl⟩ := h'.slices
  have HArg := Lib.hid (@errJ_arg a b)
  have HOv := Lib.hid (@errJ_over a b)
  have HRe := Lib.hid (@errJ_real a b)
  have HRm := Lib.hid (fun w1 => room_any w1 a.cnt b.cnt ha.cnt hb.cnt)
  have HCn := Lib.hid (show fitB (a.cnt + b.cnt) = true → (if fitB (a.cnt + b.cnt) = true then a.cnt + b.cnt else 0) = a.cnt + b.cnt from fun h => by rw [if_pos h])
  generalize (if fitB (a.cnt + b.cnt) = true then a.cnt + b.cnt else 0) = cn at *
  clear h h' ha hb hb1 hb2 hb3 hx2 hx3 hla hlb
  go_enter Tryz.func21, Tryz.ntmps21
  go_upto_region 1 with fail
  generalize ((w.alloc (CeO a (.slice p a.is.length k1) (.slice p2 a.ns.length k2))).alloc (CeO b (.slice p' b.is.length k1') (.slice p2' b.ns.length k2'))).alloc (.cells #[.int .u64 0, .int .i64 0, .slice none 0 0, .slice none 0 0] 41) = W at *
  obtain ⟨x0, x1, x2, x3⟩ := HX.out.reads
  obtain ⟨z0, z1, z2, z3⟩ := HX2.out.reads
  obtain ⟨⟨r0, r1, r2, r3⟩, rf⟩ := box_reads HX3.out
  have hcases : (a.key != b.key) = true ∨ ((a.key != b.key) = false ∧ ((a.is.length : Int) != (b.is.length : Int)) = true) ∨ ((a.key != b.key) = false ∧ ((a.is.length : Int) != (b.is.length : Int)) = false ∧ ((a.ns.length : Int) != (b.ns.length : Int)) = true) ∨ ((a.key != b.key) = false ∧ ((a.is.length : Int) != (b.is.length : Int)) = false ∧ ((a.ns.length : Int) != (b.ns.length : Int)) = false) := by
    cases (a.key != b.key) <;> cases ((a.is.length : Int) != (b.is.length : Int)) <;> cases ((a.ns.length : Int) != (b.ns.length : Int)) <;> simp
  rcases hcases with e1 | ⟨e1, e2⟩ | ⟨e1, e2, e3⟩ | ⟨e1, e2, e3⟩
  · have HR := Lib.hid (HArg.out (fun q => by simp at e1; exact e1 q.1))
    go_wp2_with fail
    have hs4 := set4_box (k' := 0) (n' := 0) (I' := .slice none 0 0) (N' := .slice none 0 0) (HX3.out)
    have hbl := set4_below (R := w.heap.size + 1 + 1) (k' := 0) (n' := 0) (I' := .slice none 0 0) (N' := .slice none 0 0) (HB0.out) (by omega)
    unfold set4 at hs4 hbl
    generalize (((W.setCell ⟨w.heap.size + 1 + 1, 0, none⟩ (.int .u64 0)).setCell ⟨w.heap.size + 1 + 1, 1, none⟩ (.int .i64 0)).setCell ⟨w.heap.size + 1 + 1, 2, none⟩ (.slice none 0 0)).setCell ⟨w.heap.size + 1 + 1, 3, none⟩ (.slice none 0 0) = W4 at *
    obtain ⟨⟨s0, s1, s2, s3⟩, -⟩ := box_reads hs4
    exact bodyPost_ret (v := .tuple #[CeV ce0 (.slice none 0 0) (.slice none 0 0), .int .i64 1]) (by simp [results, Tryz.results21, go_sem, ce0, s0, s1, s2, s3]) rfl (rj_no HR.out (by decide) hbl)
  · have HR := Lib.hid (HArg.out (fun q => by simp at e2; omega))
    go_wp2_with fail
    have hs4 := set4_box (k' := 0) (n' := 0) (I' := .slice none 0 0) (N' := .slice none 0 0) (HX3.out)
    have hbl := set4_below (R := w.heap.size + 1 + 1) (k' := 0) (n' := 0) (I' := .slice none 0 0) (N' := .slice none 0 0) (HB0.out) (by omega)
    unfold set4 at hs4 hbl
    generalize (((W.setCell ⟨w.heap.size + 1 + 1, 0, none⟩ (.int .u64 0)).setCell ⟨w.heap.size + 1 + 1, 1, none⟩ (.int .i64 0)).setCell ⟨w.heap.size + 1 + 1, 2, none⟩ (.slice none 0 0)).setCell ⟨w.heap.size + 1 + 1, 3, none⟩ (.slice none 0 0) = W4 at *
    obtain ⟨⟨s0, s1, s2, s3⟩, -⟩ := box_reads hs4
    exact bodyPost_ret (v := .tuple #[CeV ce0 (.slice none 0 0) (.slice none 0 0), .int .i64 1]) (by simp [results, Tryz.results21, go_sem, ce0, s0, s1, s2, s3]) rfl (rj_no HR.out (by decide) hbl)
  · have HR := Lib.hid (HArg.out (fun q => by simp at e3; omega))
    go_wp2_with fail
    have hs4 := set4_box (k' := 0) (n' := 0) (I' := .slice none 0 0) (N' := .slice none 0 0) (HX3.out)
    have hbl := set4_below (R := w.heap.size + 1 + 1) (k' := 0) (n' := 0) (I' := .slice none 0 0) (N' := .slice none 0 0) (HB0.out) (by omega)
    unfold set4 at hs4 hbl
    generalize (((W.setCell ⟨w.heap.size + 1 + 1, 0, none⟩ (.int .u64 0)).setCell ⟨w.heap.size + 1 + 1, 1, none⟩ (.int .i64 0)).setCell ⟨w.heap.size + 1 + 1, 2, none⟩ (.slice none 0 0)).setCell ⟨w.heap.size + 1 + 1, 3, none⟩ (.slice none 0 0) = W4 at *
    obtain ⟨⟨s0, s1, s2, s3⟩, -⟩ := box_reads hs4
    exact bodyPost_ret (v := .tuple #[CeV ce0 (.slice none 0 0) (.slice none 0 0), .int .i64 1]) (by simp [results, Tryz.results21, go_sem, ce0, s0, s1, s2, s3]) rfl (rj_no HR.out (by decide) hbl)
  · have HL := Lib.hid (show a.key = b.key ∧ a.is.length = b.is.length ∧ a.ns.length = b.ns.length by simp at e1 e2 e3; exact ⟨e1, by omega, by omega⟩)
    have HOv2 := Lib.hid (fun q => HOv.out HL.out q)
    have HRe2 := Lib.hid (fun q => HRe.out HL.out q)
    clear HArg HOv HRe
    go_wp2_with fail
    refine (HRm.out _).mono ?_; rintro e w1 ⟨rfl, hb⟩
    have HB1 := Lib.hid (below_then HB0.out hb)
    have HX1 := Lib.hid (HX.out.below hb)
    have HX21 := Lib.hid (HX2.out.below hb)
    have HX31 := Lib.hid (show w1.heap[w.heap.size + 1 + 1]? = some (.cells (boxV 0 0 (.slice none 0 0) (.slice none 0 0)) 41 (0, 0)) by rw [hb.block _ (Array.getElem?_eq_some_iff.1 HX3.out).1]; exact HX3.out)
    have HI1 := Lib.hid (HI.out.below hb)
    have HN1 := Lib.hid (HN.out.below hb)
    have HI1' := Lib.hid (HI'.out.below hb)
    have HN1' := Lib.hid (HN'.out.below hb)
    clear hb x0 x1 x2 x3 z0 z1 z2 z3 r0 r1 r2 r3 rf e1 e2 e3 HX HX2 HX3 HI HN HI' HN'
    obtain ⟨⟨r0, r1, r2, r3⟩, rf⟩ := box_reads HX31.out
    cases hft : fitB (a.cnt + b.cnt) with
    | false =>
      have HR := Lib.hid (HOv2.out (fun q => by rw [hft] at q; cases q.1))
      clear hft
      go_wp2_with fail
      have hs4 := set4_box (k' := 0) (n' := 0) (I' := .slice none 0 0) (N' := .slice none 0 0) (HX31.out)
      have hbl := set4_below (R := w.heap.size + 1 + 1) (k' := 0) (n' := 0) (I' := .slice none 0 0) (N' := .slice none 0 0) (HB1.out) (by omega)
      unfold set4 at hs4 hbl
      generalize (((w1.setCell ⟨w.heap.size + 1 + 1, 0, none⟩ (.int .u64 0)).setCell ⟨w.heap.size + 1 + 1, 1, none⟩ (.int .i64 0)).setCell ⟨w.heap.size + 1 + 1, 2, none⟩ (.slice none 0 0)).setCell ⟨w.heap.size + 1 + 1, 3, none⟩ (.slice none 0 0) = W4 at *
      obtain ⟨⟨s0, s1, s2, s3⟩, -⟩ := box_reads hs4
      exact bodyPost_ret (v := .tuple #[CeV ce0 (.slice none 0 0) (.slice none 0 0), .int .i64 10]) (by simp [results, Tryz.results21, go_sem, ce0, s0, s1, s2, s3]) rfl (rj_no HR.out (by decide) hbl)
    | true =>
      have hcn := HCn.out hft
      have HFc := Lib.hid (And.intro hft hcn)
      clear hft hcn HCn
      obtain ⟨x0, x1, x2, x3⟩ := HX1.out.reads
      obtain ⟨z0, z1, z2, z3⟩ := HX21.out.reads
      have HC0 := Lib.hid (show (w1.alloc (.cells #[.int .u64 a.key, .int .i64 cn, .slice none 0 0, .slice none 0 0] 41)).heap[w1.heap.size]? = some (.cells (boxV a.key cn (.slice none 0 0) (.slice none 0 0)) 41 (0, 0)) from heap_alloc_new w1 _)
      go_wp2_with fail
      clear x0 x1 x2 x3 z0 z1 z2 z3 r0 r1 r2 r3 rf
      have hR1 : w.heap.size + 1 + 1 < w1.heap.size := (Array.getElem?_eq_some_iff.1 HX31.out).1
      go_loopw [9] (fun iv wr => ∃ (k : Nat) (v : Value) (ps : List (Value × Wh)), k ≤ a.is.length ∧ iv = .int .i64 k ∧ Hid (ps.length = k ∧ Below w1.heap.size w1 wr ∧ wr.heap[w1.heap.size]? = some (.cells (boxV a.key cn v (.slice none 0 0)) 41 (0, 0)) ∧ WsOwn wr w1.heap.size v ps ∧ ∀ j, j < k → JW (wg a.is j) (wg b.is j) (wg (ps.map Prod.snd) j))) (fun iv _ => a.is.length - (intOf iv).toNat)
      case atStart => exact ⟨0, _, [], Nat.zero_le _, rfl, Lib.hid ⟨rfl, below_one _ _, HC0.out, WsOwn.nil _ _, fun j hj => by omega⟩⟩
      case round =>
        clear HC0
        obtain ⟨k, v, ps, hk, rfl, HS⟩ := hrel
        have HB := Lib.hid HS.out.2.1
        obtain ⟨-, -, x2, x3⟩ := (HX1.out.below HB.out).reads
        obtain ⟨-, -, z2, z3⟩ := (HX21.out.below HB.out).reads
        by_cases hlk : k < a.is.length
        · have hlk' : (k : Int) < (a.is.length : Int) := by omega
          have hkb0 : k < b.is.length := by have := HL.out.2.1; omega
          have hkb : (k : Int) < (b.is.length : Int) := by omega
          obtain ⟨ba, oa, qa, rfl, hqa⟩ := (HI1.out.below HB.out).at hlk
          obtain ⟨bb, ob, qb, rfl, hqb⟩ := (HI1'.out.below HB.out).at hkb0
          have hle : Hid (k + 1 ≤ a.is.length) := Lib.hid (by omega)
          obtain ⟨f0, f1, f2, f3, f4, f5⟩ := hqa
          obtain ⟨g0, g1, g2, g3, g4, g5⟩ := hqb
          have hwa := HWa.out.wg hlk
          have hwb := HWb.out.wg hkb0
          have HQl := Lib.hid (And.intro (HLa.out.2.2.1 k hlk) (HLb.out.2.2.1 k hkb0))
          have HNo := Lib.hid (fun (q : okW (wg a.is k) (wg b.is k) = false) => HOv2.out (fun z => by have := z.2 k hlk; rw [q] at this; cases this))
          have HOk := Lib.hid (show okW (wg a.is k) (wg b.is k) = (fitB ((wg a.is k).sum + (wg b.is k).sum) && fitB ((wg a.is k).abs + (wg b.is k).abs)) from rfl)
          have HJk := Lib.hid (fun z (q1 : fitB ((wg a.is k).sum + (wg b.is k).sum) = true) (q2 : fitB ((wg a.is k).abs + (wg b.is k).abs) = true) (e1 : z.sum = (wg a.is k).sum + (wg b.is k).sum) (e2 : z.abs = (wg a.is k).abs + (wg b.is k).abs) (e3 : Wd z.sq) (e4 : Tidy z.sq) (e5 : wv z.sq = wv (wg a.is k).sq + wv (wg b.is k).sq) (e6 : z.mn = min (wg a.is k).mn (wg b.is k).mn) (e7 : z.mx = max (wg a.is k).mx (wg b.is k).mx) => (⟨q1, q2, e1, e2, e3, e4, e5, e6, e7⟩ : JW (wg a.is k) (wg b.is k) z))
          have HR1 := Lib.hid (fun w1 => room_any w1 _ _ hwa.sum hwb.sum)
          have HR2 := Lib.hid (fun w1 => room_any w1 _ _ hwa.abs hwb.abs)
          have HWq := Lib.hid (And.intro hwa.sq hwb.sq)
          clear hwa hwb
          generalize okW (wg a.is k) (wg b.is k) = okk at *
          generalize (wg a.is k).sum = x0 at *
          generalize (wg a.is k).abs = x1 at *
          generalize (wg a.is k).mn = x3 at *
          generalize (wg a.is k).mx = x4 at *
          generalize (wg b.is k).sum = y0 at *
          generalize (wg b.is k).abs = y1 at *
          generalize (wg b.is k).mn = y3 at *
          generalize (wg b.is k).mx = y4 at *
          generalize (wg a.is k).sq = la at *
          generalize (wg b.is k).sq = lb at *
          have HF5 := Lib.hid (And.intro f5 g5)
          obtain ⟨pqa, cqa, rfl, -, -⟩ := f5
          obtain ⟨pqb, cqb, rfl, -, -⟩ := g5
          have HS1 := Lib.hid (show fitB (x0 + y0) = true → (if fitB (x0 + y0) = true then x0 + y0 else 0) = x0 + y0 from fun h => by rw [if_pos h])
          have HS2 := Lib.hid (show fitB (x1 + y1) = true → (if fitB (x1 + y1) = true then x1 + y1 else 0) = x1 + y1 from fun h => by rw [if_pos h])
          generalize (if fitB (x0 + y0) = true then x0 + y0 else 0) = s1 at *
          generalize (if fitB (x1 + y1) = true then x1 + y1 else 0) = s2 at *
          generalize fitB (x0 + y0) = t1 at *
          generalize fitB (x1 + y1) = t2 at *
          go_upto_region 10 with fail
          go_cut [10, 11] from 65 to 131 (fun v6 v7 wx => ∃ P Q : Nat, v6 = .pointer (some ⟨P, 0, none⟩) ∧ v7 = .pointer (some ⟨Q, 0, none⟩) ∧ Hid (TwoAt 75 wr P Q #[.int .i64 x0, .int .i64 x1, .slice pqa la.length cqa, .int .i64 x3, .int .i64 x4] #[.int .i64 y0, .int .i64 y1, .slice pqb lb.length cqb, .int .i64 y3, .int .i64 y4] wx))
          case first =>
            have hk0 : wr.cell? ⟨w.heap.size, 2, none⟩ = some (.slice (some ⟨ba, oa, none⟩) a.is.length k1) ∧ wr.cell? ⟨w.heap.size + 1, 2, none⟩ = some (.slice (some ⟨bb, ob, none⟩) b.is.length k1') ∧ wr.cell? ⟨ba, oa + k * 5, none⟩ = some (.int .i64 x0) ∧ wr.cell? ⟨ba, oa + k * 5 + 1, none⟩ = some (.int .i64 x1) ∧ wr.cell? ⟨ba, oa + k * 5 + 2, none⟩ = some (.slice pqa la.length cqa) ∧ wr.cell? ⟨ba, oa + k * 5 + 3, none⟩ = some (.int .i64 x3) ∧ wr.cell? ⟨ba, oa + k * 5 + 4, none⟩ = some (.int .i64 x4) ∧ wr.cell? ⟨bb, ob + k * 5, none⟩ = some (.int .i64 y0) ∧ wr.cell? ⟨bb, ob + k * 5 + 1, none⟩ = some (.int .i64 y1) ∧ wr.cell? ⟨bb, ob + k * 5 + 2, none⟩ = some (.slice pqb lb.length cqb) ∧ wr.cell? ⟨bb, ob + k * 5 + 3, none⟩ = some (.int .i64 y3) ∧ wr.cell? ⟨bb, ob + k * 5 + 4, none⟩ = some (.int .i64 y4) := ⟨x2, z2, f0, f1, f2, f3, f4, g0, g1, g2, g3, g4⟩
            have hk : wr.drew.cell? ⟨w.heap.size, 2, none⟩ = some (.slice (some ⟨ba, oa, none⟩) a.is.length k1) ∧ wr.drew.cell? ⟨w.heap.size + 1, 2, none⟩ = some (.slice (some ⟨bb, ob, none⟩) b.is.length k1') ∧ wr.drew.cell? ⟨ba, oa + k * 5, none⟩ = some (.int .i64 x0) ∧ wr.drew.cell? ⟨ba, oa + k * 5 + 1, none⟩ = some (.int .i64 x1) ∧ wr.drew.cell? ⟨ba, oa + k * 5 + 2, none⟩ = some (.slice pqa la.length cqa) ∧ wr.drew.cell? ⟨ba, oa + k * 5 + 3, none⟩ = some (.int .i64 x3) ∧ wr.drew.cell? ⟨ba, oa + k * 5 + 4, none⟩ = some (.int .i64 x4) ∧ wr.drew.cell? ⟨bb, ob + k * 5, none⟩ = some (.int .i64 y0) ∧ wr.drew.cell? ⟨bb, ob + k * 5 + 1, none⟩ = some (.int .i64 y1) ∧ wr.drew.cell? ⟨bb, ob + k * 5 + 2, none⟩ = some (.slice pqb lb.length cqb) ∧ wr.drew.cell? ⟨bb, ob + k * 5 + 3, none⟩ = some (.int .i64 y3) ∧ wr.drew.cell? ⟨bb, ob + k * 5 + 4, none⟩ = some (.int .i64 y4) := hk0
            have hlo : ba < wr.heap.size ∧ bb < wr.heap.size ∧ w.heap.size + 1 < wr.heap.size := ⟨World.block_lt_of_cell? _ _ f0, World.block_lt_of_cell? _ _ g0, World.block_lt_of_cell? _ _ z2⟩
            clear x2 z2 f0 f1 f2 f3 f4 g0 g1 g2 g3 g4
            go_region_held3 (fun w' => w'.cell? ⟨w.heap.size, 2, none⟩ = some (.slice (some ⟨ba, oa, none⟩) a.is.length k1) ∧ w'.cell? ⟨w.heap.size + 1, 2, none⟩ = some (.slice (some ⟨bb, ob, none⟩) b.is.length k1') ∧ w'.cell? ⟨ba, oa + k * 5, none⟩ = some (.int .i64 x0) ∧ w'.cell? ⟨ba, oa + k * 5 + 1, none⟩ = some (.int .i64 x1) ∧ w'.cell? ⟨ba, oa + k * 5 + 2, none⟩ = some (.slice pqa la.length cqa) ∧ w'.cell? ⟨ba, oa + k * 5 + 3, none⟩ = some (.int .i64 x3) ∧ w'.cell? ⟨ba, oa + k * 5 + 4, none⟩ = some (.int .i64 x4) ∧ w'.cell? ⟨bb, ob + k * 5, none⟩ = some (.int .i64 y0) ∧ w'.cell? ⟨bb, ob + k * 5 + 1, none⟩ = some (.int .i64 y1) ∧ w'.cell? ⟨bb, ob + k * 5 + 2, none⟩ = some (.slice pqb lb.length cqb) ∧ w'.cell? ⟨bb, ob + k * 5 + 3, none⟩ = some (.int .i64 y3) ∧ w'.cell? ⟨bb, ob + k * 5 + 4, none⟩ = some (.int .i64 y4)) (first | (with_reducible exact hk) | exact hold12 (by repeat' first | exact Below.refl _ _ | refine Below.drew ?_ | refine Below.alloc ?_ (by first | exact Nat.le_refl _ | (simp; done) | (simp; omega)) _ | refine Below.setCell ?_ (by first | exact Nat.le_refl _ | (simp; done) | (simp; omega)) _) hk0) (fail)
            · go_wp2_with fail
              go_meet
              exact ⟨_, _, rfl, rfl, Lib.hid two_made⟩
            · go_wp2_with fail
              go_meet
              exact ⟨_, _, rfl, rfl, Lib.hid two_turned⟩
          case rest =>
            obtain ⟨P, Q, rfl, rfl, hT⟩ := hcut
            clear x2 z2 f0 f1 f2 f3 f4 g0 g1 g2 g3 g4
            obtain ⟨f0, f1, f2, f3, f4⟩ := row5 hT.out.1
            obtain ⟨g0, g1, g2, g3, g4⟩ := row5 hT.out.2.1
            have HT := Lib.hid hT.out.2.2.1
            have HPQ := Lib.hid hT.out.2.2.2
            clear hT
            go_wp2_with fail
            refine (HR1.out _).mono ?_; rintro e w3 ⟨rfl, hb⟩
            have HT3 := Lib.hid (below_then HT.out hb)
            have f1 := cell_later hb f1
            have f2 := cell_later hb f2
            have f3 := cell_later hb f3
            have f4 := cell_later hb f4
            have g1 := cell_later hb g1
            have g2 := cell_later hb g2
            have g3 := cell_later hb g3
            have g4 := cell_later hb g4
            clear hb f0 g0
            go_wp2_with fail
            refine (HR2.out _).mono ?_; rintro e w4 ⟨rfl, hb⟩
            have HT4 := Lib.hid (below_then HT3.out hb)
            have f2 := cell_later hb f2
            have f3 := cell_later hb f3
            have f4 := cell_later hb f4
            have g2 := cell_later hb g2
            have g3 := cell_later hb g3
            have g4 := cell_later hb g4
            clear hb f1 g1
            have HB4 := Lib.hid (HB.out.trans (HT4.out.mono HB.out.size))
            have HX34 := Lib.hid (show w4.heap[w.heap.size + 1 + 1]? = some (.cells (boxV 0 0 (.slice none 0 0) (.slice none 0 0)) 41 (0, 0)) by rw [HB4.out.block _ hR1]; exact HX31.out)
            obtain ⟨⟨r0, r1, r2, r3⟩, rf⟩ := box_reads HX34.out
            have hw34 : w.heap.size ≤ w1.heap.size := by omega
            have HB04 := Lib.hid (below_then HB1.out HB4.out)
            cases ht : (t1 && t2) with
            | false =>
              have HR := Lib.hid (HNo.out (HOk.out.trans ht))
              have htt : t1 = false ∨ (t1 = true ∧ t2 = false) := by cases t1 <;> cases t2 <;> simp_all
              clear ht HJk HNo HOk HS1 HS2 f2 f3 f4 g2 g3 g4
              rcases htt with rfl | ⟨rfl, rfl⟩
              ·
                go_wp2_with fail
                have hs4 := set4_box (k' := 0) (n' := 0) (I' := .slice none 0 0) (N' := .slice none 0 0) (HX34.out)
                have hbl := set4_below (R := w.heap.size + 1 + 1) (k' := 0) (n' := 0) (I' := .slice none 0 0) (N' := .slice none 0 0) (HB04.out) (by omega)
                unfold set4 at hs4 hbl
                generalize (((w4.setCell ⟨w.heap.size + 1 + 1, 0, none⟩ (.int .u64 0)).setCell ⟨w.heap.size + 1 + 1, 1, none⟩ (.int .i64 0)).setCell ⟨w.heap.size + 1 + 1, 2, none⟩ (.slice none 0 0)).setCell ⟨w.heap.size + 1 + 1, 3, none⟩ (.slice none 0 0) = W4 at *
                obtain ⟨⟨s0, s1, s2, s3⟩, -⟩ := box_reads hs4
                exact bodyPost_ret (v := .tuple #[CeV ce0 (.slice none 0 0) (.slice none 0 0), .int .i64 10]) (by simp [results, Tryz.results21, go_sem, ce0, s0, s1, s2, s3]) rfl (rj_no HR.out (by decide) hbl)
              ·
                go_wp2_with fail
                have hs4 := set4_box (k' := 0) (n' := 0) (I' := .slice none 0 0) (N' := .slice none 0 0) (HX34.out)
                have hbl := set4_below (R := w.heap.size + 1 + 1) (k' := 0) (n' := 0) (I' := .slice none 0 0) (N' := .slice none 0 0) (HB04.out) (by omega)
                unfold set4 at hs4 hbl
                generalize (((w4.setCell ⟨w.heap.size + 1 + 1, 0, none⟩ (.int .u64 0)).setCell ⟨w.heap.size + 1 + 1, 1, none⟩ (.int .i64 0)).setCell ⟨w.heap.size + 1 + 1, 2, none⟩ (.slice none 0 0)).setCell ⟨w.heap.size + 1 + 1, 3, none⟩ (.slice none 0 0) = W4 at *
                obtain ⟨⟨s0, s1, s2, s3⟩, -⟩ := box_reads hs4
                exact bodyPost_ret (v := .tuple #[CeV ce0 (.slice none 0 0) (.slice none 0 0), .int .i64 10]) (by simp [results, Tryz.results21, go_sem, ce0, s0, s1, s2, s3]) rfl (rj_no HR.out (by decide) hbl)
            | true =>
              obtain ⟨rfl, rfl⟩ : t1 = true ∧ t2 = true := by cases t1 <;> cases t2 <;> simp_all
              have h1 := HS1.out rfl
              have h2 := HS2.out rfl
              subst h1 h2
              clear ht HNo HOk HS1 HS2 r0 r1 r2 r3 rf
              have HIa := Lib.hid ((HF5.out.1.below HT4.out))
              have HIb := Lib.hid ((HF5.out.2.below HT4.out))
              have HNm1 := Lib.hid (fun w1 (hb : Below w4.heap.size w4 w1) => num_words _ la w1 ⟨HIa.out.below hb, HWq.out.1, by have := HQl.out.1; omega⟩ (by have := HQl.out.1; omega))
              have HNm2 := Lib.hid (fun w1 (hb : Below w4.heap.size w4 w1) => num_words _ lb w1 ⟨HIb.out.below hb, HWq.out.2, by have := HQl.out.2; omega⟩ (by have := HQl.out.2; omega))
              have HAd := Lib.hid (fun w1 u v (hu : IsNum w1 u (wv la)) (hv : IsNum w1 v (wv lb)) => num_add u v _ _ 120 w1 hu hv (sized_words14 HWq.out.1 HQl.out.1) (sized_words14 HWq.out.2 HQl.out.2) (by decide))
              have HVz := Lib.hid (wv_sum14 HWq.out.1 HWq.out.2 HQl.out.1 HQl.out.2)
              generalize wv la = za at *
              generalize wv lb = zb at *
              go_upto_region 15 with fail
              go_cut [16] from 65 to 131 (fun v16 wx => ∃ M : Nat, v16 = .pointer (some ⟨M, 0, none⟩) ∧ ∃ g h, Hid (NumAt w4 M g h (za + zb) wx))
              case first =>
                have hk0 : w4.cell? ⟨P, 2, none⟩ = some (.slice pqa la.length cqa) ∧ w4.cell? ⟨Q, 2, none⟩ = some (.slice pqb lb.length cqb) := ⟨f2, g2⟩
                have hk : w4.drew.cell? ⟨P, 2, none⟩ = some (.slice pqa la.length cqa) ∧ w4.drew.cell? ⟨Q, 2, none⟩ = some (.slice pqb lb.length cqb) := hk0
                have hBw : Below w4.heap.size w4 w4 := Below.refl _ _
                clear f2 f3 f4 g2 g3 g4
                go_region_held3 (fun w' => w'.cell? ⟨P, 2, none⟩ = some (.slice pqa la.length cqa) ∧ w'.cell? ⟨Q, 2, none⟩ = some (.slice pqb lb.length cqb)) (first | (with_reducible exact hk) | exact hold2 (by repeat' first | exact hBw | exact Below.refl _ _ | refine Below.drew ?_ | refine Below.alloc ?_ (by first | exact hBw.size | (have := hBw.size; simp; omega)) _ | refine Below.setCell ?_ (by first | exact hMlo | (simp; omega)) _) hk0)
                  (first
                    | (go_at_call_of 56 pqa; refine (HNm1.out _ (by (repeat' first | exact hBw | exact Below.refl _ _ | refine Below.drew ?_ | refine Below.alloc ?_ (by first | exact hBw.size | exact Nat.le_refl _ | (have := hBw.size; simp; omega)) _); done)).mono ?_; rintro r w5 ⟨t, rfl, ht, hb1⟩; replace hb1 := from_drew hb1; obtain ⟨tb, tp, tl, tc, rfl⟩ := ht.shape; (first | (have kA : Kept w4 w4.heap.size 89 w5 := (kept_new (Below.refl _ _)).call hb1; have hMlo := kA.2.1; obtain ⟨l1, l2, l3⟩ := kept_lt kA) | skip); have hBw : Below w4.heap.size w4 w5 := (by first | exact hb1 | exact below_then (below_one _ _) hb1); have hk := hold2 hBw hk0)
                    | (go_at_call_of 56 pqb; refine (HNm2.out _ (by first | exact hBw | exact below_then hBw (below_one _ _))).mono ?_; rintro r w6 ⟨s, rfl, hs, hb2⟩; obtain ⟨sb, sp, sl, sc, rfl⟩ := hs.shape; have ht2 : IsNum w6 (.agg #[.bool tb, .slice tp tl tc]) za := (by first | exact ht.below hb2 | exact (ht.below (below_one _ _)).below hb2); (first | (have kB : Kept w4 w5.heap.size 89 w6 := (kept_new hBw).call hb2; have hMlo := kB.2.1; obtain ⟨l1, l2, l3⟩ := kept_lt kB) | (replace kA := kA.call hb2; obtain ⟨l1, l2, l3⟩ := kept_lt kA) | skip); have hBw : Below w4.heap.size w4 w6 := (by first | exact below_then hBw hb2 | exact below_then (below_then hBw (below_one _ _)) hb2); have hk := hold2 hBw hk0)
                    | (go_at_call 55; refine (HAd.out _ _ _ ?_ ?_).mono ?_; (first | exact ht2 | exact ht2.below (below_one _ _)); (first | exact hs | exact hs.below (below_one _ _)); rintro r w7 ⟨z, rfl, hz, hb3⟩; obtain ⟨qb, qp, ql, qc, rfl⟩ := hz.shape; (first | (have kC : Kept w4 w6.heap.size 89 w7 := (kept_new hBw).call hb3; have hMlo := kC.2.1; obtain ⟨⟨x1, hx1⟩, ⟨y1, hy1⟩, hf1, hf2⟩ := kC.cells; obtain ⟨l1, l2, l3⟩ := kept_lt kC) | (replace kB := kB.call hb3; obtain ⟨⟨x1, hx1⟩, ⟨y1, hy1⟩, hf1, hf2⟩ := kB.cells; obtain ⟨l1, l2, l3⟩ := kept_lt kB) | (replace kA := kA.call hb3; obtain ⟨⟨x1, hx1⟩, ⟨y1, hy1⟩, hf1, hf2⟩ := kA.cells; obtain ⟨l1, l2, l3⟩ := kept_lt kA) | skip); have hBw : Below w4.heap.size w4 w7 := (by first | exact below_then hBw hb3 | exact below_then (below_then hBw (below_one _ _)) hb3); have hk := hold2 hBw hk0))
                all_goals
                  clear HNm1 HNm2 HAd
                  go_wp2_with fail
                  go_meet
                  first
                    | with_reducible exact ⟨_, rfl, _, _, Lib.hid (numAt_new hBw hz)⟩
                    | with_reducible exact ⟨_, rfl, _, _, Lib.hid (numAt_set kA hz)⟩
                    | with_reducible exact ⟨_, rfl, _, _, Lib.hid (numAt_set kB hz)⟩
                    | with_reducible exact ⟨_, rfl, _, _, Lib.hid (numAt_set kC hz)⟩
              case rest =>
                obtain ⟨M, rfl, mg, mh, hNA⟩ := hcut
                clear HNm1 HNm2 HAd HIa HIb
                obtain ⟨m0, m1, hnum, hb5, hM5⟩ := hNA.out
                obtain ⟨nb, np, nl, nc, e⟩ := hnum.shape
                simp only [Value.agg.injEq, Array.mk.injEq, List.cons.injEq, and_true] at e
                obtain ⟨rfl, rfl⟩ := e
                have HNm := Lib.hid hnum
                have HT5 := Lib.hid (below_then HT4.out hb5)
                have f3 := cell_later hb5 f3
                have f4 := cell_later hb5 f4
                have g3 := cell_later hb5 g3
                have g4 := cell_later hb5 g4
                have hClt : w1.heap.size < wr.heap.size := (Array.getElem?_eq_some_iff.1 HS.out.2.2.1).1
                have hCc : wc.heap[w1.heap.size]? = _ := (HT5.out.block _ hClt).trans HS.out.2.2.1
                have hVlt : ∀ g, v.ownBlock = some g → g < wr.heap.size := fun g hg => (World.ownsRow.lt HS.out.2.2.2.1.1 g hg).2
                have HWs := Lib.hid (HS.out.2.2.2.1.below HT5.out)
                have hMr : wr.heap.size ≤ M := Nat.le_trans HT4.out.size hM5
                have HCc := Lib.hid hCc
                have hcv := (box_reads hCc).1.2.2.1
                have hcf := (box_reads hCc).2 2
                have HPs := Lib.hid HS.out.1
                have HVl := Lib.hid hVlt
                obtain ⟨pv, cv, rfl⟩ := own_any14 HWs.out.1
                have HOf := Lib.hid (fun w6 (hb : Below wc.heap.size wc w6) => rof_own (.agg #[.bool nb, .slice np nl nc]) (za + zb) w6 (HNm.out.below hb) HVz.out.1 HVz.out.2)
                obtain ⟨i0, hi, hz0, hz1, hz2⟩ := info_parts Tryz.infoWhole
                have HSz := Lib.hid HT5.out.size
                have HBc := Lib.hid (HB.out.trans (HT5.out.mono HB.out.size))
                clear hCc hVlt hb5 hnum hNA
                go_upto_region 16 with fail
                have hk0 : (wc.cell? ⟨M, 0, none⟩ = some (.bool nb) ∧ wc.cell? ⟨M, 1, none⟩ = some (.slice np nl nc) ∧ wc.cell? ⟨P, 3, none⟩ = some (.int .i64 x3) ∧ wc.cell? ⟨Q, 3, none⟩ = some (.int .i64 y3) ∧ wc.cell? ⟨P, 4, none⟩ = some (.int .i64 x4) ∧ wc.cell? ⟨Q, 4, none⟩ = some (.int .i64 y4)) ∧ wc.cell? ⟨w1.heap.size, 2, none⟩ = some (.slice pv ps.length cv) := ⟨⟨m0, m1, f3, g3, f4, g4⟩, hcv⟩
                have hk : (wc.drew.cell? ⟨M, 0, none⟩ = some (.bool nb) ∧ wc.drew.cell? ⟨M, 1, none⟩ = some (.slice np nl nc) ∧ wc.drew.cell? ⟨P, 3, none⟩ = some (.int .i64 x3) ∧ wc.drew.cell? ⟨Q, 3, none⟩ = some (.int .i64 y3) ∧ wc.drew.cell? ⟨P, 4, none⟩ = some (.int .i64 x4) ∧ wc.drew.cell? ⟨Q, 4, none⟩ = some (.int .i64 y4)) ∧ wc.drew.cell? ⟨w1.heap.size, 2, none⟩ = some (.slice pv ps.length cv) := hk0
                clear m0 m1 f3 f4 g3 g4 hcv hcf
                have hP7 := HPQ.out
                refine wp_region_z (S := fun w' => (w'.cell? ⟨M, 0, none⟩ = some (.bool nb) ∧ w'.cell? ⟨M, 1, none⟩ = some (.slice np nl nc) ∧ w'.cell? ⟨P, 3, none⟩ = some (.int .i64 x3) ∧ w'.cell? ⟨Q, 3, none⟩ = some (.int .i64 y3) ∧ w'.cell? ⟨P, 4, none⟩ = some (.int .i64 x4) ∧ w'.cell? ⟨Q, 4, none⟩ = some (.int .i64 y4)) ∧ w'.cell? ⟨w1.heap.size, 2, none⟩ = some (.slice pv ps.length cv)) 20 (by kernel_rfl) hk (fun _ => ?_)
                refine wpZ_take (i := 0) (oi := { dst := some 112, op := _, type := _, pos := _, after := _, guard := _ }) (v := .pointer (some ⟨w1.heap.size, 2, none⟩)) rfl (by kernel_rfl) (by kernel_rfl) (by kernel_rfl) (by kernel_rfl) (fun _ _ _ h => h) (Or.inl ⟨by kernel_rfl, fun w hSw => by (try dsimp only at hSw); first | (go_simp; done) | (go_simp; rfl)⟩) hk ?_
                try simp only [Act.put, List.setIfInBounds_toArray, List.set_cons_zero, List.set_cons_succ]
                refine wpZ_take (i := 1) (oi := { dst := some 113, op := _, type := _, pos := _, after := _, guard := _ }) (v := .slice pv ps.length cv) rfl (by kernel_rfl) (by kernel_rfl) (by kernel_rfl) (by kernel_rfl) (fun _ _ _ h => h) (Or.inl ⟨by kernel_rfl, fun w hSw => by (try dsimp only at hSw); first | (go_simp; done) | (go_simp; rfl)⟩) hk ?_
                try simp only [Act.put, List.setIfInBounds_toArray, List.set_cons_zero, List.set_cons_succ]
                refine wpZ_take (i := 2) (oi := { dst := some 114, op := _, type := _, pos := _, after := _, guard := _ }) (v := .int .i64 (x0 + y0)) rfl (by kernel_rfl) (by kernel_rfl) (by kernel_rfl) (by kernel_rfl) (fun _ _ _ h => h) (Or.inl ⟨by kernel_rfl, fun w hSw => by (try dsimp only at hSw); first | (go_simp; done) | (go_simp; rfl)⟩) hk ?_
                try simp only [Act.put, List.setIfInBounds_toArray, List.set_cons_zero, List.set_cons_succ]
                refine wpZ_take (i := 3) (oi := { dst := some 115, op := _, type := _, pos := _, after := _, guard := _ }) (v := .int .i64 (x1 + y1)) rfl (by kernel_rfl) (by kernel_rfl) (by kernel_rfl) (by kernel_rfl) (fun _ _ _ h => h) (Or.inl ⟨by kernel_rfl, fun w hSw => by (try dsimp only at hSw); first | (go_simp; done) | (go_simp; rfl)⟩) hk ?_
                try simp only [Act.put, List.setIfInBounds_toArray, List.set_cons_zero, List.set_cons_succ]
                refine wpZ_take (i := 4) (oi := { dst := some 116, op := _, type := _, pos := _, after := _, guard := _ }) (v := .agg #[.bool nb, .slice np nl nc]) rfl (by kernel_rfl) (by kernel_rfl) (by kernel_rfl) (by kernel_rfl) (fun _ _ _ h => h) (Or.inl ⟨by kernel_rfl, fun w hSw => by (try dsimp only at hSw); first | (go_simp; done) | (go_simp; rfl)⟩) hk ?_
                try simp only [Act.put, List.setIfInBounds_toArray, List.set_cons_zero, List.set_cons_succ]
                refine wpZ_take (i := 6) (oi := { dst := some 118, op := _, type := _, pos := _, after := _, guard := _ }) (v := .pointer (some ⟨P, 3, none⟩)) rfl (by kernel_rfl) (by kernel_rfl) (by kernel_rfl) (by kernel_rfl) (fun _ _ _ h => h) (Or.inl ⟨by kernel_rfl, fun w hSw => by (try dsimp only at hSw); first | (go_simp; done) | (go_simp; rfl)⟩) hk ?_
                try simp only [Act.put, List.setIfInBounds_toArray, List.set_cons_zero, List.set_cons_succ]
                refine wpZ_take (i := 7) (oi := { dst := some 119, op := _, type := _, pos := _, after := _, guard := _ }) (v := .int .i64 x3) rfl (by kernel_rfl) (by kernel_rfl) (by kernel_rfl) (by kernel_rfl) (fun _ _ _ h => h) (Or.inl ⟨by kernel_rfl, fun w hSw => by (try dsimp only at hSw); first | (go_simp; done) | (go_simp; rfl)⟩) hk ?_
                try simp only [Act.put, List.setIfInBounds_toArray, List.set_cons_zero, List.set_cons_succ]
                refine wpZ_take (i := 8) (oi := { dst := some 120, op := _, type := _, pos := _, after := _, guard := _ }) (v := .pointer (some ⟨Q, 3, none⟩)) rfl (by kernel_rfl) (by kernel_rfl) (by kernel_rfl) (by kernel_rfl) (fun _ _ _ h => h) (Or.inl ⟨by kernel_rfl, fun w hSw => by (try dsimp only at hSw); first | (go_simp; done) | (go_simp; rfl)⟩) hk ?_
                try simp only [Act.put, List.setIfInBounds_toArray, List.set_cons_zero, List.set_cons_succ]
                refine wpZ_take (i := 9) (oi := { dst := some 121, op := _, type := _, pos := _, after := _, guard := _ }) (v := .int .i64 y3) rfl (by kernel_rfl) (by kernel_rfl) (by kernel_rfl) (by kernel_rfl) (fun _ _ _ h => h) (Or.inl ⟨by kernel_rfl, fun w hSw => by (try dsimp only at hSw); first | (go_simp; done) | (go_simp; rfl)⟩) hk ?_
                try simp only [Act.put, List.setIfInBounds_toArray, List.set_cons_zero, List.set_cons_succ]
                refine wpZ_take (i := 10) (oi := { dst := some 122, op := _, type := _, pos := _, after := _, guard := _ }) (v := .int .i64 (min x3 y3)) rfl (by kernel_rfl) (by kernel_rfl) (by kernel_rfl) (by kernel_rfl) (fun _ _ _ h => h) (Or.inl ⟨by kernel_rfl, fun w hSw => by (try dsimp only at hSw); first | (go_simp; done) | (go_simp; rfl)⟩) hk ?_
                try simp only [Act.put, List.setIfInBounds_toArray, List.set_cons_zero, List.set_cons_succ]
                refine wpZ_take (i := 11) (oi := { dst := some 123, op := _, type := _, pos := _, after := _, guard := _ }) (v := .pointer (some ⟨P, 4, none⟩)) rfl (by kernel_rfl) (by kernel_rfl) (by kernel_rfl) (by kernel_rfl) (fun _ _ _ h => h) (Or.inl ⟨by kernel_rfl, fun w hSw => by (try dsimp only at hSw); first | (go_simp; done) | (go_simp; rfl)⟩) hk ?_
                try simp only [Act.put, List.setIfInBounds_toArray, List.set_cons_zero, List.set_cons_succ]
                refine wpZ_take (i := 12) (oi := { dst := some 124, op := _, type := _, pos := _, after := _, guard := _ }) (v := .int .i64 x4) rfl (by kernel_rfl) (by kernel_rfl) (by kernel_rfl) (by kernel_rfl) (fun _ _ _ h => h) (Or.inl ⟨by kernel_rfl, fun w hSw => by (try dsimp only at hSw); first | (go_simp; done) | (go_simp; rfl)⟩) hk ?_
                try simp only [Act.put, List.setIfInBounds_toArray, List.set_cons_zero, List.set_cons_succ]
                refine wpZ_take (i := 13) (oi := { dst := some 125, op := _, type := _, pos := _, after := _, guard := _ }) (v := .pointer (some ⟨Q, 4, none⟩)) rfl (by kernel_rfl) (by kernel_rfl) (by kernel_rfl) (by kernel_rfl) (fun _ _ _ h => h) (Or.inl ⟨by kernel_rfl, fun w hSw => by (try dsimp only at hSw); first | (go_simp; done) | (go_simp; rfl)⟩) hk ?_
                try simp only [Act.put, List.setIfInBounds_toArray, List.set_cons_zero, List.set_cons_succ]
                refine wpZ_take (i := 14) (oi := { dst := some 126, op := _, type := _, pos := _, after := _, guard := _ }) (v := .int .i64 y4) rfl (by kernel_rfl) (by kernel_rfl) (by kernel_rfl) (by kernel_rfl) (fun _ _ _ h => h) (Or.inl ⟨by kernel_rfl, fun w hSw => by (try dsimp only at hSw); first | (go_simp; done) | (go_simp; rfl)⟩) hk ?_
                try simp only [Act.put, List.setIfInBounds_toArray, List.set_cons_zero, List.set_cons_succ]
                refine wpZ_take (i := 15) (oi := { dst := some 127, op := _, type := _, pos := _, after := _, guard := _ }) (v := .int .i64 (max x4 y4)) rfl (by kernel_rfl) (by kernel_rfl) (by kernel_rfl) (by kernel_rfl) (fun _ _ _ h => h) (Or.inl ⟨by kernel_rfl, fun w hSw => by (try dsimp only at hSw); first | (go_simp; done) | (go_simp; rfl)⟩) hk ?_
                try simp only [Act.put, List.setIfInBounds_toArray, List.set_cons_zero, List.set_cons_succ]
                refine wpZ_one (i := 5) (by kernel_rfl) rfl (fun K' hK => ?_)
                rw [if_pos (by kernel_rfl)]
                go_simp
                go_at_call 43
                refine (HOf.out _ (Below.drew (Below.refl _ _))).mono ?_
                rintro r w6 ⟨u, q, rfl, ho, hwd, hty, hval, hln, hb3⟩
                replace hb3 := from_drew hb3
                obtain ⟨pq, cq, rfl⟩ := own_any14 ho
                have hBw : Below wc.heap.size wc w6 := hb3
                replace hk := And.intro (hold6 hBw hk0.1) (cell_later hBw hk0.2)
                have HO6 := Lib.hid (And.intro ho (And.intro hwd (And.intro hty (And.intro hval hln))))
                clear ho hwd hty hval hln hb3 hk0 HOf
                refine hK.out _ _ hk ?_
                try simp only [Act.put, List.setIfInBounds_toArray, List.set_cons_zero, List.set_cons_succ]
                clear hK
                refine wpZ_take (i := 16) (oi := { dst := some 128, op := _, type := _, pos := _, after := _, guard := _ }) (v := .agg #[.int .i64 (x0 + y0), .int .i64 (x1 + y1), .slice pq q.length cq, .int .i64 (min x3 y3), .int .i64 (max x4 y4)]) rfl (by kernel_rfl) (by kernel_rfl) (by kernel_rfl) (by kernel_rfl) (fun _ _ _ h => h) (Or.inl ⟨by kernel_rfl, fun w hSw => by (try dsimp only at hSw); first | (go_simp; done) | (go_simp; rfl)⟩) hk ?_
                try simp only [Act.put, List.setIfInBounds_toArray, List.set_cons_zero, List.set_cons_succ]
                refine wpZ_one (i := 17) (by kernel_rfl) rfl (fun K' hK => ?_)
                rw [if_pos (by kernel_rfl)]
                go_simp
                have hbE : Below wc.heap.size wc (w6.alloc (.cells #[.int .i64 (x0 + y0), .int .i64 (x1 + y1), .slice pq q.length cq, .int .i64 (min x3 y3), .int .i64 (max x4 y4)] 75)) := below_then hBw (below_one _ _)
                replace hk := And.intro (hold6 (below_one w6 (.cells #[.int .i64 (x0 + y0), .int .i64 (x1 + y1), .slice pq q.length cq, .int .i64 (min x3 y3), .int .i64 (max x4 y4)] 75)) hk.1) (cell_later (below_one w6 (.cells #[.int .i64 (x0 + y0), .int .i64 (x1 + y1), .slice pq q.length cq, .int .i64 (min x3 y3), .int .i64 (max x4 y4)] 75)) hk.2)
                refine hK.out _ _ hk ?_
                try simp only [Act.put, List.setIfInBounds_toArray, List.set_cons_zero, List.set_cons_succ]
                clear hK
                refine wpZ_one (i := 18) (by kernel_rfl) rfl (fun K' hK => ?_)
                refine append_own_step14 _ (by rfl) _ _ _ (by rfl) w1.heap.size 75 i0 (.agg #[.int .i64 0, .int .i64 0, .slice none 0 0, .int .i64 0, .int .i64 0]) 5 56 Tryz.underlying38 hi hz0 hz1 hz2 zcells_whole (by decide) _ ps.length (cellsW ps) (by rfl) (own_keep HWs.out.1 hbE) ⟨w6.heap.size, 0, none⟩ 1 1 [.int .i64 (x0 + y0), .int .i64 (x1 + y1), .slice pq q.length cq, .int .i64 (min x3 y3), .int .i64 (max x4 y4)] (by rfl) (by rfl) (World.news_of_block (heap_alloc_new w6 _)) (by intro u hu; simp at hu; rcases hu with rfl | rfl | rfl | rfl | rfl <;> rfl) (by have := HPs.out; have := HLa.out.1; unfold maxLen; omega) (by have := HPs.out; have := HLa.out.1; omega) (by have := hBw.size; have := HSz.out; simp; omega) ?_
                intro v' w7 hown hgrow
                have hWE := HWs.out.below hbE
                have HW7 := Lib.hid (WsOwn.push (x := ⟨x0 + y0, x1 + y1, q, min x3 y3, max x4 y4⟩) hWE (own_low14 (own_keep HO6.out.1 (below_one _ _)) (by have h1 := HSz.out; have h2 := HB.out.size; first | omega | exact Nat.le_trans h2 h1)) hown hgrow)
                have hCE := (hbE.block _ (by have := HSz.out; omega)).trans HCc.out
                have HC7 := Lib.hid (box_stay hCE hWE.1 (by decide) hgrow)
                have hc7 := (box_reads HC7.out).1.2.2.1
                have hf7 := (box_reads HC7.out).2 2
                have HB7 := Lib.hid (Below.grown (HBc.out.trans (hbE.mono HBc.out.size)) hgrow (by have := hbE.size; have := HBc.out.size; omega) (fun gg hg => (World.ownsRow.lt HWs.out.1 gg hg).1))
                replace hk := And.intro (grown6 hgrow HVl.out hP7.1 hP7.2 hMr hk.1) hc7
                clear hWE hCE hbE
                obtain ⟨pv', cv', rfl⟩ := own_any14 hown
                clear hown hgrow
                refine hK.out _ _ hk ?_
                try simp only [Act.put, List.setIfInBounds_toArray]
                clear hK
                refine wpZ_take (i := 19) (oi := { dst := some 131, op := _, type := _, pos := _, after := _, guard := _ }) (v := .pointer (some ⟨w1.heap.size, 2, none⟩)) rfl (by kernel_rfl) (by kernel_rfl) (by kernel_rfl) (by kernel_rfl) (fun _ _ _ h => h) (Or.inl ⟨by kernel_rfl, fun w hSw => by (try dsimp only at hSw); first | (go_simp; done) | (go_simp; rfl)⟩) hk ?_
                try simp only [Act.put]
                refine wpZ_last (by kernel_rfl) rfl (fun K' hK => ?_)
                rw [if_pos (by kernel_rfl)]
                go_simp
                refine hK.out _ _ ?_
                try simp only [Act.put, List.setIfInBounds_toArray, List.set_cons_zero, List.set_cons_succ]
                clear hK
                refine wpZ_done (by kernel_rfl) ?_ _
                have HC8 := Lib.hid (box_set2 (u := .slice pv' (ps.length + 1) cv') HC7.out)
                have HW8 := Lib.hid (HW7.out.setbox (j := 2) (u := .slice pv' (ps.length + 1) cv') HC7.out (by decide) (by decide))
                have HB8 := Lib.hid (HB7.out.setCell (p := ⟨w1.heap.size, 2, none⟩) (Nat.le_refl _) (.slice pv' (ps.length + 1) cv'))
                generalize w7.setCell ⟨w1.heap.size, 2, none⟩ (.slice pv' (ps.length + 1) cv') = w8 at *
                clear hc7 hf7 hk
                have h10 := HLa.out.1
                go_wp2_with fail
                go_roundw
                case rel => exact ⟨k + 1, _, ps ++ [(.slice pq q.length cq, ⟨x0 + y0, x1 + y1, q, min x3 y3, max x4 y4⟩)], hle.out, by go_num, Lib.hid ⟨by simp [HPs.out], HB8.out, HC8.out, HW8.out, fun j hj => snoc_jw (fun z => JW (wg a.is j) (wg b.is j) z) HPs.out hj (HS.out.2.2.2.2 j) (fun e => by subst e; exact HJk.out _ (by trivial) (by trivial) rfl rfl HO6.out.2.1 HO6.out.2.2.1 HO6.out.2.2.2.1 rfl rfl)⟩⟩
                case measure => simp [intOf]; omega
        · obtain rfl : k = a.is.length := by omega
          have HAll := Lib.hid (HRe2.out ⟨HFc.out.1, fun j hj => by have q := HS.out.2.2.2.2 j hj; unfold okW; rw [q.f1, q.f2]; rfl⟩)
          have HJW := Lib.hid (And.intro HS.out.1 HS.out.2.2.2.2)
          have HVr := Lib.hid (And.intro HS.out.2.2.1 HS.out.2.2.2.1)
          clear HS HOv2 HRe2 hlk hk
          generalize wr = wz at *
          go_wp2_with fail
          clear x2 x3 z2 z3
          go_loopw [17] (fun iv wr => ∃ (k : Nat) (v2 : Value) (rs : List (Value × Re)), k ≤ a.ns.length ∧ iv = .int .i64 k ∧ Hid (rs.length = k ∧ Below w1.heap.size w1 wr ∧ wr.heap[w1.heap.size]? = some (.cells (boxV a.key cn v v2) 41 (0, 0)) ∧ WsOwn wr w1.heap.size v ps ∧ RsOwn wr w1.heap.size v2 rs ∧ ∀ j, j < k → rErr (rg a.ns j) (rg b.ns j) = 0 ∧ JR (rg a.ns j) (rg b.ns j) (rg (rs.map Prod.snd) j))) (fun iv _ => a.ns.length - (intOf iv).toNat)
          case atStart => exact ⟨0, _, [], Nat.zero_le _, rfl, Lib.hid ⟨rfl, HB.out, HVr.out.1, HVr.out.2, RsOwn.nil _ _, fun j hj => by omega⟩⟩
          case round =>
            clear HB HVr
            obtain ⟨k, v2, rs, hk, rfl, HS⟩ := hrel
            have HB := Lib.hid HS.out.2.1
            obtain ⟨-, -, -, x3⟩ := (HX1.out.below HB.out).reads
            obtain ⟨-, -, -, z3⟩ := (HX21.out.below HB.out).reads
            by_cases hlk : k < a.ns.length
            · have hlk' : (k : Int) < (a.ns.length : Int) := by omega
              have hkb0 : k < b.ns.length := by have := HL.out.2.2; omega
              have hkb : (k : Int) < (b.ns.length : Int) := by omega
              obtain ⟨ba, oa, qa, rfl, hqa⟩ := (HN1.out.below HB.out).at hlk
              obtain ⟨bb, ob, qb, rfl, hqb⟩ := (HN1'.out.below HB.out).at hkb0
              have hle : Hid (k + 1 ≤ a.ns.length) := Lib.hid (by omega)
              obtain ⟨f0, f1, f2, f5⟩ := hqa
              obtain ⟨g0, g1, g2, g5⟩ := hqb
              obtain ⟨hwa, -, wa1, wa2⟩ := HWa.out.rg hlk
              obtain ⟨hwb, -, wb1, wb2⟩ := HWb.out.rg hkb0
              have HEr := Lib.hid (show rErr (rg a.ns k) (rg b.ns k) = if errN (rg a.ns k).sum = 0 ∧ errN (rg b.ns k).sum = 0 then if bitsZ ((readT (rg a.ns k).sum + readT (rg b.ns k).sum).natAbs : Int) ≤ 2240 then 0 else 10 else 13 from rfl)
              have HNo := Lib.hid (fun (q : rErr (rg a.ns k) (rg b.ns k) ≠ 0) => show errJ a b = rErr (rg a.ns k) (rg b.ns k) from HAll.out.trans (first_at (f := fun k => rErr (rg a.ns k) (rg b.ns k)) (fun j hj => (HS.out.2.2.2.2.2 j hj).1) q _ hlk))
              have HJk := Lib.hid (fun z (q1 : errN (rg a.ns k).sum = 0) (q2 : errN (rg b.ns k).sum = 0) (q3 : Fits (readT (rg a.ns k).sum + readT (rg b.ns k).sum)) (q4 : IsEnc (readF (rg a.ns k).sum ||| readF (rg b.ns k).sum) (readT (rg a.ns k).sum + readT (rg b.ns k).sum) z.sum) (q5 : z.mn = if lessB (rg b.ns k).mn (rg a.ns k).mn then (rg b.ns k).mn else (rg a.ns k).mn) (q6 : z.mx = if lessB (rg a.ns k).mx (rg b.ns k).mx then (rg b.ns k).mx else (rg a.ns k).mx) => (⟨q1, q2, q3, q4, q5, q6⟩ : JR (rg a.ns k) (rg b.ns k) z))
              generalize (rg a.ns k).mn = x1 at *
              generalize (rg a.ns k).mx = x2 at *
              generalize (rg b.ns k).mn = y1 at *
              generalize (rg b.ns k).mx = y2 at *
              generalize (rg a.ns k).sum = la at *
              generalize (rg b.ns k).sum = lb at *
              have HF5 := Lib.hid (And.intro f5 g5)
              obtain ⟨pqa, cqa, rfl, -, -⟩ := f5
              obtain ⟨pqb, cqb, rfl, -, -⟩ := g5
              have HR1 := Lib.hid (fun w1 (hb : Below wr.heap.size wr w1) => rsread_any _ _ _ la w1 (HF5.out.1.below hb) hwa)
              have HR2 := Lib.hid (fun w1 (hb : Below wr.heap.size wr w1) => rsread_any _ _ _ lb w1 (HF5.out.2.below hb) hwb)
              have HLs := Lib.hid (fun w1 => rleast_any x1 y1 w1 wa1 wb1)
              have HMs := Lib.hid (fun w1 => rmost_any x2 y2 w1 wa2 wb2)
              clear hwa hwb wa1 wa2 wb1 wb2
              go_upto_region 20 with fail
              go_cut [18, 19] from 132 to 194 (fun v9 v10 wx => ∃ P Q : Nat, v9 = .pointer (some ⟨P, 0, none⟩) ∧ v10 = .pointer (some ⟨Q, 0, none⟩) ∧ Hid (TwoAt 63 wr P Q #[.slice pqa la.length cqa, .float .f64 x1, .float .f64 x2] #[.slice pqb lb.length cqb, .float .f64 y1, .float .f64 y2] wx))
              case first =>
                have hk0 : wr.cell? ⟨w.heap.size, 3, none⟩ = some (.slice (some ⟨ba, oa, none⟩) a.ns.length k2) ∧ wr.cell? ⟨w.heap.size + 1, 3, none⟩ = some (.slice (some ⟨bb, ob, none⟩) b.ns.length k2') ∧ wr.cell? ⟨ba, oa + k * 3, none⟩ = some (.slice pqa la.length cqa) ∧ wr.cell? ⟨ba, oa + k * 3 + 1, none⟩ = some (.float .f64 x1) ∧ wr.cell? ⟨ba, oa + k * 3 + 2, none⟩ = some (.float .f64 x2) ∧ wr.cell? ⟨bb, ob + k * 3, none⟩ = some (.slice pqb lb.length cqb) ∧ wr.cell? ⟨bb, ob + k * 3 + 1, none⟩ = some (.float .f64 y1) ∧ wr.cell? ⟨bb, ob + k * 3 + 2, none⟩ = some (.float .f64 y2) := ⟨x3, z3, f0, f1, f2, g0, g1, g2⟩
                have hk : wr.drew.cell? ⟨w.heap.size, 3, none⟩ = some (.slice (some ⟨ba, oa, none⟩) a.ns.length k2) ∧ wr.drew.cell? ⟨w.heap.size + 1, 3, none⟩ = some (.slice (some ⟨bb, ob, none⟩) b.ns.length k2') ∧ wr.drew.cell? ⟨ba, oa + k * 3, none⟩ = some (.slice pqa la.length cqa) ∧ wr.drew.cell? ⟨ba, oa + k * 3 + 1, none⟩ = some (.float .f64 x1) ∧ wr.drew.cell? ⟨ba, oa + k * 3 + 2, none⟩ = some (.float .f64 x2) ∧ wr.drew.cell? ⟨bb, ob + k * 3, none⟩ = some (.slice pqb lb.length cqb) ∧ wr.drew.cell? ⟨bb, ob + k * 3 + 1, none⟩ = some (.float .f64 y1) ∧ wr.drew.cell? ⟨bb, ob + k * 3 + 2, none⟩ = some (.float .f64 y2) := hk0
                have hlo : ba < wr.heap.size ∧ bb < wr.heap.size ∧ w.heap.size + 1 < wr.heap.size := ⟨World.block_lt_of_cell? _ _ f0, World.block_lt_of_cell? _ _ g0, World.block_lt_of_cell? _ _ z3⟩
                clear x3 z3 f0 f1 f2 g0 g1 g2
                have hsf := fun (w : World) (a : Addr) (m : Mode) (k : Nat) => run_store_f64 (P := Tryz.prog) (w := w) (a := a) (m := m) k
                go_region_held3 (fun w' => w'.cell? ⟨w.heap.size, 3, none⟩ = some (.slice (some ⟨ba, oa, none⟩) a.ns.length k2) ∧ w'.cell? ⟨w.heap.size + 1, 3, none⟩ = some (.slice (some ⟨bb, ob, none⟩) b.ns.length k2') ∧ w'.cell? ⟨ba, oa + k * 3, none⟩ = some (.slice pqa la.length cqa) ∧ w'.cell? ⟨ba, oa + k * 3 + 1, none⟩ = some (.float .f64 x1) ∧ w'.cell? ⟨ba, oa + k * 3 + 2, none⟩ = some (.float .f64 x2) ∧ w'.cell? ⟨bb, ob + k * 3, none⟩ = some (.slice pqb lb.length cqb) ∧ w'.cell? ⟨bb, ob + k * 3 + 1, none⟩ = some (.float .f64 y1) ∧ w'.cell? ⟨bb, ob + k * 3 + 2, none⟩ = some (.float .f64 y2)) (first | (with_reducible exact hk) | exact hold8 (by repeat' first | exact Below.refl _ _ | refine Below.drew ?_ | refine Below.alloc ?_ (by first | exact Nat.le_refl _ | (simp; done) | (simp; omega)) _ | refine Below.setCell ?_ (by first | exact Nat.le_refl _ | (simp; done) | (simp; omega)) _) hk0) (fail)
                · go_wp2_with fail
                  go_meet
                  exact ⟨_, _, rfl, rfl, Lib.hid two_made⟩
                · go_wp2_with fail
                  go_meet
                  exact ⟨_, _, rfl, rfl, Lib.hid two_turned⟩
              case rest =>
                obtain ⟨P, Q, rfl, rfl, hT⟩ := hcut
                clear x3 z3 f0 f1 f2 g0 g1 g2
                obtain ⟨f0, f1, f2⟩ := row3 hT.out.1
                obtain ⟨g0, g1, g2⟩ := row3 hT.out.2.1
                have HT := Lib.hid hT.out.2.2.1
                have HPQ := Lib.hid hT.out.2.2.2
                clear hT
                go_wp2_with fail
                refine (HR1.out _ HT.out).mono ?_
                rintro e w3 hr
                obtain ⟨b0, b1, b2, b3, b4, nb, sp, sn, sc, rfl, hs3, hb3⟩ := read14 hr
                have HS3 := Lib.hid hs3
                have HP3 : wr.heap.size ≤ w3.heap.size := Nat.le_trans HT.out.size hb3.size
                have h3 := below_then hb3 (below_one w3 (.cells #[.bool b0, .bool b1, .bool b2, .bool b3, .bool b4, .bool nb, .slice sp sn sc] 95))
                have HT3 := Lib.hid (below_then HT.out h3)
                have f1 := cell_later h3 f1
                have f2 := cell_later h3 f2
                have g0 := cell_later h3 g0
                have g1 := cell_later h3 g1
                have g2 := cell_later h3 g2
                clear hr hs3 h3 f0 hb3
                go_wp2_with fail
                refine (HR2.out _ HT3.out).mono ?_
                rintro e w4 hr
                obtain ⟨d0, d1, d2, d3, d4, nd, dp, dn, dc, rfl, hs4, hb4⟩ := read14 hr
                have h4 := below_then hb4 (below_one w4 (.cells #[.bool d0, .bool d1, .bool d2, .bool d3, .bool d4, .bool nd, .slice dp dn dc] 95))
                have HT5 := Lib.hid (below_then HT3.out h4)
                have HA5 := Lib.hid (heap_then (heap_then (heap_alloc_new w3 (.cells #[.bool b0, .bool b1, .bool b2, .bool b3, .bool b4, .bool nb, .slice sp sn sc] 95)) hb4) (below_one w4 (.cells #[.bool d0, .bool d1, .bool d2, .bool d3, .bool d4, .bool nd, .slice dp dn dc] 95)))
                have HB25 := Lib.hid (heap_alloc_new w4 (.cells #[.bool d0, .bool d1, .bool d2, .bool d3, .bool d4, .bool nd, .slice dp dn dc] 95))
                have HSA := Lib.hid (fun q => (HS3.out q).below (below_then (below_one w3 (.cells #[.bool b0, .bool b1, .bool b2, .bool b3, .bool b4, .bool nb, .slice sp sn sc] 95)) h4))
                have HSB := Lib.hid (fun q => (hs4 q).below (below_one w4 (.cells #[.bool d0, .bool d1, .bool d2, .bool d3, .bool d4, .bool nd, .slice dp dn dc] 95)))
                have HPs := Lib.hid (show wr.heap.size ≤ w3.heap.size ∧ wr.heap.size ≤ w4.heap.size by have q4 := hb4.size; simp at q4; omega)
                have f1 := cell_later h4 f1
                have f2 := cell_later h4 f2
                have g1 := cell_later h4 g1
                have g2 := cell_later h4 g2
                clear hr hs4 h4 g0 hb4 HR1 HR2 HS3
                go_upto_region 23 with fail
                generalize w4.alloc (.cells #[.bool d0, .bool d1, .bool d2, .bool d3, .bool d4, .bool nd, .slice dp dn dc] 95) = w5 at *
                have HB5 := Lib.hid (HB.out.trans (HT5.out.mono HB.out.size))
                have HX35 := Lib.hid (show w5.heap[w.heap.size + 1 + 1]? = some (.cells (boxV 0 0 (.slice none 0 0) (.slice none 0 0)) 41 (0, 0)) by rw [HB5.out.block _ hR1]; exact HX31.out)
                obtain ⟨⟨r0, r1, r2, r3⟩, rf⟩ := box_reads HX35.out
                have HB05 := Lib.hid (below_then HB1.out HB5.out)
                by_cases ea : errN la = 0
                · by_cases eb : errN lb = 0
                  · have hea : ((errN la : Int) != 0) = false := by rw [ea]; rfl
                    have heb : ((errN lb : Int) != 0) = false := by rw [eb]; rfl
                    have HSA2 := HSA.out ea
                    have HSB2 := HSB.out eb
                    obtain ⟨k0, k1, k2', k3, k4, k5, k6⟩ := row7 HA5.out
                    obtain ⟨l0, l1, l2, l3, l4, l5, l6⟩ := row7 HB25.out
                    by_cases hft : Fits (readT la + readT lb)
                    · have HEx := Lib.hid (enc_ex (f := readF la ||| readF lb) hft)
                      have HJz := Lib.hid (fun z => HJk.out z ea eb hft)
                      have HE0 := Lib.hid (show rErr (rg a.ns k) (rg b.ns k) = 0 by have q := HEr.out; rw [if_pos ⟨ea, eb⟩, if_pos (show bitsZ ((readT la + readT lb).natAbs : Int) ≤ 2240 from hft)] at q; exact q)
                      have HJo := Lib.hid (rsjoin_fit w5 _ _ _ _ _ _ HSA2 HSB2 hft)
                      clear HSA HSB HSA2 HSB2 HNo HEr HJk ea eb r0 r1 r2 r3 rf
                      generalize readT la + readT lb = tt at *
                      generalize (readF la ||| readF lb) = F at *
                      generalize (if lessB y1 x1 = true then y1 else x1) = mn at *
                      generalize (if lessB x2 y2 = true then y2 else x2) = mx at *
                      go_wp2_with fail
                      refine HJo.out.mono ?_
                      rintro e w6 ⟨⟨v0, rfl, nj, jp, jn, jc, rfl, hj1, hj2⟩, hb6⟩
                      have h6 := below_then hb6 (below_one w6 (.cells #[.bool (bitB F 0), .bool (bitB F 1), .bool (bitB F 2), .bool (bitB F 3), .bool (bitB F 4), .bool nj, .slice jp jn jc] 95))
                      have HT7 := Lib.hid (below_then HT5.out h6)
                      have HM7 := Lib.hid (heap_alloc_new w6 (.cells #[.bool (bitB F 0), .bool (bitB F 1), .bool (bitB F 2), .bool (bitB F 3), .bool (bitB F 4), .bool nj, .slice jp jn jc] 95))
                      have HS7 := Lib.hid (SumV.below (⟨nj, jp, jn, jc, rfl, hj1, hj2⟩ : SumV w6 (.agg #[.bool (bitB F 0), .bool (bitB F 1), .bool (bitB F 2), .bool (bitB F 3), .bool (bitB F 4), .bool nj, .slice jp jn jc]) F tt) (below_one w6 (.cells #[.bool (bitB F 0), .bool (bitB F 1), .bool (bitB F 2), .bool (bitB F 3), .bool (bitB F 4), .bool nj, .slice jp jn jc] 95)))
                      have HP6 := Lib.hid (show wr.heap.size ≤ w6.heap.size from Nat.le_trans HT5.out.size hb6.size)
                      have f1 := cell_later h6 f1
                      have f2 := cell_later h6 f2
                      have g1 := cell_later h6 g1
                      have g2 := cell_later h6 g2
                      clear h6 hj1 hj2 hb6 HJo k0 k1 k2' k3 k4 k5 k6 l0 l1 l2 l3 l4 l5 l6
                      go_upto_region 26 with fail
                      generalize w6.alloc (.cells #[.bool (bitB F 0), .bool (bitB F 1), .bool (bitB F 2), .bool (bitB F 3), .bool (bitB F 4), .bool nj, .slice jp jn jc] 95) = w7 at *
                      generalize w6.heap.size = M at *
                      go_upto_region 28 with fail
                      have hClt : w1.heap.size < wr.heap.size := (Array.getElem?_eq_some_iff.1 HS.out.2.2.1).1
                      have HCc := Lib.hid ((HT7.out.block _ hClt).trans HS.out.2.2.1)
                      have HVl := Lib.hid (fun g hg => (World.ownsRow.lt HS.out.2.2.2.2.1.1 g hg).2)
                      have HWs := Lib.hid (HS.out.2.2.2.1.below HT7.out)
                      have HRs := Lib.hid (HS.out.2.2.2.2.1.below HT7.out)
                      have HSj := Lib.hid HS.out.2.2.2.2.2
                      have HRl := Lib.hid HS.out.1
                      have HB7 := Lib.hid (HB.out.trans (HT7.out.mono HB.out.size))
                      obtain ⟨l, hl⟩ := HEx.out
                      have HBy := Lib.hid (fun w1 (hb : Below w7.heap.size w7 w1) => rsbytes_any w1 _ F tt l (HS7.out.below hb) hl)
                      have HEl := Lib.hid hl
                      obtain ⟨pv2, cv2, rfl⟩ := own_any14 HRs.out.1
                      obtain ⟨i0, hi, hz0, hz1, hz2⟩ := info_parts Tryz.infoReal
                      obtain ⟨m0, m1, m2, m3, m4, m5, m6⟩ := row7 HM7.out
                      have hk0 : w7.cell? ⟨M, 0, none⟩ = some (.bool (bitB F 0)) ∧ w7.cell? ⟨M, 1, none⟩ = some (.bool (bitB F 1)) ∧ w7.cell? ⟨M, 2, none⟩ = some (.bool (bitB F 2)) ∧ w7.cell? ⟨M, 3, none⟩ = some (.bool (bitB F 3)) ∧ w7.cell? ⟨M, 4, none⟩ = some (.bool (bitB F 4)) ∧ w7.cell? ⟨M, 5, none⟩ = some (.bool nj) ∧ w7.cell? ⟨M, 6, none⟩ = some (.slice jp jn jc) ∧ w7.cell? ⟨P, 1, none⟩ = some (.float .f64 x1) ∧ w7.cell? ⟨P, 2, none⟩ = some (.float .f64 x2) ∧ w7.cell? ⟨Q, 1, none⟩ = some (.float .f64 y1) ∧ w7.cell? ⟨Q, 2, none⟩ = some (.float .f64 y2) ∧ w7.cell? ⟨w1.heap.size, 3, none⟩ = some (.slice pv2 rs.length cv2) := ⟨m0, m1, m2, m3, m4, m5, m6, f1, f2, g1, g2, (box_reads HCc.out).1.2.2.2⟩
                      have hk : w7.drew.cell? ⟨M, 0, none⟩ = some (.bool (bitB F 0)) ∧ w7.drew.cell? ⟨M, 1, none⟩ = some (.bool (bitB F 1)) ∧ w7.drew.cell? ⟨M, 2, none⟩ = some (.bool (bitB F 2)) ∧ w7.drew.cell? ⟨M, 3, none⟩ = some (.bool (bitB F 3)) ∧ w7.drew.cell? ⟨M, 4, none⟩ = some (.bool (bitB F 4)) ∧ w7.drew.cell? ⟨M, 5, none⟩ = some (.bool nj) ∧ w7.drew.cell? ⟨M, 6, none⟩ = some (.slice jp jn jc) ∧ w7.drew.cell? ⟨P, 1, none⟩ = some (.float .f64 x1) ∧ w7.drew.cell? ⟨P, 2, none⟩ = some (.float .f64 x2) ∧ w7.drew.cell? ⟨Q, 1, none⟩ = some (.float .f64 y1) ∧ w7.drew.cell? ⟨Q, 2, none⟩ = some (.float .f64 y2) ∧ w7.drew.cell? ⟨w1.heap.size, 3, none⟩ = some (.slice pv2 rs.length cv2) := hk0
                      have hP7 := HPQ.out
                      have hS7 := HT7.out.size
                      clear m0 m1 m2 m3 m4 m5 m6 f1 f2 g1 g2 HEx HS hl HB
                      refine wp_region_z (S := fun w' => w'.cell? ⟨M, 0, none⟩ = some (.bool (bitB F 0)) ∧ w'.cell? ⟨M, 1, none⟩ = some (.bool (bitB F 1)) ∧ w'.cell? ⟨M, 2, none⟩ = some (.bool (bitB F 2)) ∧ w'.cell? ⟨M, 3, none⟩ = some (.bool (bitB F 3)) ∧ w'.cell? ⟨M, 4, none⟩ = some (.bool (bitB F 4)) ∧ w'.cell? ⟨M, 5, none⟩ = some (.bool nj) ∧ w'.cell? ⟨M, 6, none⟩ = some (.slice jp jn jc) ∧ w'.cell? ⟨P, 1, none⟩ = some (.float .f64 x1) ∧ w'.cell? ⟨P, 2, none⟩ = some (.float .f64 x2) ∧ w'.cell? ⟨Q, 1, none⟩ = some (.float .f64 y1) ∧ w'.cell? ⟨Q, 2, none⟩ = some (.float .f64 y2) ∧ w'.cell? ⟨w1.heap.size, 3, none⟩ = some (.slice pv2 rs.length cv2)) 18 (by kernel_rfl) hk (fun _ => ?_)
                      refine wpZ_take (i := 0) (oi := { dst := some 177, op := _, type := _, pos := _, after := _, guard := _ }) (v := .pointer (some ⟨w1.heap.size, 3, none⟩)) rfl (by kernel_rfl) (by kernel_rfl) (by kernel_rfl) (by kernel_rfl) (fun _ _ _ h => h) (Or.inl ⟨by kernel_rfl, fun w hSw => by (try dsimp only at hSw); first | (go_simp; done) | (go_simp; rfl)⟩) hk ?_
                      try simp only [Act.put, List.setIfInBounds_toArray, List.set_cons_zero, List.set_cons_succ]
                      refine wpZ_take (i := 1) (oi := { dst := some 178, op := _, type := _, pos := _, after := _, guard := _ }) (v := .slice pv2 rs.length cv2) rfl (by kernel_rfl) (by kernel_rfl) (by kernel_rfl) (by kernel_rfl) (fun _ _ _ h => h) (Or.inl ⟨by kernel_rfl, fun w hSw => by (try dsimp only at hSw); first | (go_simp; done) | (go_simp; rfl)⟩) hk ?_
                      try simp only [Act.put, List.setIfInBounds_toArray, List.set_cons_zero, List.set_cons_succ]
                      refine wpZ_take (i := 2) (oi := { dst := some 179, op := _, type := _, pos := _, after := _, guard := _ }) (v := .agg #[.bool (bitB F 0), .bool (bitB F 1), .bool (bitB F 2), .bool (bitB F 3), .bool (bitB F 4), .bool nj, .slice jp jn jc]) rfl (by kernel_rfl) (by kernel_rfl) (by kernel_rfl) (by kernel_rfl) (fun _ _ _ h => h) (Or.inl ⟨by kernel_rfl, fun w hSw => by (try dsimp only at hSw); first | (go_simp; done) | (go_simp; rfl)⟩) hk ?_
                      try simp only [Act.put, List.setIfInBounds_toArray, List.set_cons_zero, List.set_cons_succ]
                      refine wpZ_take (i := 4) (oi := { dst := some 181, op := _, type := _, pos := _, after := _, guard := _ }) (v := .pointer (some ⟨P, 1, none⟩)) rfl (by kernel_rfl) (by kernel_rfl) (by kernel_rfl) (by kernel_rfl) (fun _ _ _ h => h) (Or.inl ⟨by kernel_rfl, fun w hSw => by (try dsimp only at hSw); first | (go_simp; done) | (go_simp; rfl)⟩) hk ?_
                      try simp only [Act.put, List.setIfInBounds_toArray, List.set_cons_zero, List.set_cons_succ]
                      refine wpZ_take (i := 5) (oi := { dst := some 182, op := _, type := _, pos := _, after := _, guard := _ }) (v := .float .f64 x1) rfl (by kernel_rfl) (by kernel_rfl) (by kernel_rfl) (by kernel_rfl) (fun _ _ _ h => h) (Or.inl ⟨by kernel_rfl, fun w hSw => by (try dsimp only at hSw); first | (go_simp; done) | (go_simp; rfl)⟩) hk ?_
                      try simp only [Act.put, List.setIfInBounds_toArray, List.set_cons_zero, List.set_cons_succ]
                      refine wpZ_take (i := 6) (oi := { dst := some 183, op := _, type := _, pos := _, after := _, guard := _ }) (v := .pointer (some ⟨Q, 1, none⟩)) rfl (by kernel_rfl) (by kernel_rfl) (by kernel_rfl) (by kernel_rfl) (fun _ _ _ h => h) (Or.inl ⟨by kernel_rfl, fun w hSw => by (try dsimp only at hSw); first | (go_simp; done) | (go_simp; rfl)⟩) hk ?_
                      try simp only [Act.put, List.setIfInBounds_toArray, List.set_cons_zero, List.set_cons_succ]
                      refine wpZ_take (i := 7) (oi := { dst := some 184, op := _, type := _, pos := _, after := _, guard := _ }) (v := .float .f64 y1) rfl (by kernel_rfl) (by kernel_rfl) (by kernel_rfl) (by kernel_rfl) (fun _ _ _ h => h) (Or.inl ⟨by kernel_rfl, fun w hSw => by (try dsimp only at hSw); first | (go_simp; done) | (go_simp; rfl)⟩) hk ?_
                      try simp only [Act.put, List.setIfInBounds_toArray, List.set_cons_zero, List.set_cons_succ]
                      refine wpZ_take (i := 9) (oi := { dst := some 186, op := _, type := _, pos := _, after := _, guard := _ }) (v := .pointer (some ⟨P, 2, none⟩)) rfl (by kernel_rfl) (by kernel_rfl) (by kernel_rfl) (by kernel_rfl) (fun _ _ _ h => h) (Or.inl ⟨by kernel_rfl, fun w hSw => by (try dsimp only at hSw); first | (go_simp; done) | (go_simp; rfl)⟩) hk ?_
                      try simp only [Act.put, List.setIfInBounds_toArray, List.set_cons_zero, List.set_cons_succ]
                      refine wpZ_take (i := 10) (oi := { dst := some 187, op := _, type := _, pos := _, after := _, guard := _ }) (v := .float .f64 x2) rfl (by kernel_rfl) (by kernel_rfl) (by kernel_rfl) (by kernel_rfl) (fun _ _ _ h => h) (Or.inl ⟨by kernel_rfl, fun w hSw => by (try dsimp only at hSw); first | (go_simp; done) | (go_simp; rfl)⟩) hk ?_
                      try simp only [Act.put, List.setIfInBounds_toArray, List.set_cons_zero, List.set_cons_succ]
                      refine wpZ_take (i := 11) (oi := { dst := some 188, op := _, type := _, pos := _, after := _, guard := _ }) (v := .pointer (some ⟨Q, 2, none⟩)) rfl (by kernel_rfl) (by kernel_rfl) (by kernel_rfl) (by kernel_rfl) (fun _ _ _ h => h) (Or.inl ⟨by kernel_rfl, fun w hSw => by (try dsimp only at hSw); first | (go_simp; done) | (go_simp; rfl)⟩) hk ?_
                      try simp only [Act.put, List.setIfInBounds_toArray, List.set_cons_zero, List.set_cons_succ]
                      refine wpZ_take (i := 12) (oi := { dst := some 189, op := _, type := _, pos := _, after := _, guard := _ }) (v := .float .f64 y2) rfl (by kernel_rfl) (by kernel_rfl) (by kernel_rfl) (by kernel_rfl) (fun _ _ _ h => h) (Or.inl ⟨by kernel_rfl, fun w hSw => by (try dsimp only at hSw); first | (go_simp; done) | (go_simp; rfl)⟩) hk ?_
                      try simp only [Act.put, List.setIfInBounds_toArray, List.set_cons_zero, List.set_cons_succ]
                      refine wpZ_one (i := 3) (by kernel_rfl) rfl (fun K' hK => ?_)
                      rw [if_pos (by kernel_rfl)]
                      go_simp
                      go_at_call 45
                      refine (HBy.out _ (Below.drew (Below.refl _ _))).mono ?_
                      rintro r w8 ⟨⟨q0, rfl, ho⟩, hb8⟩
                      replace hb8 := from_drew hb8
                      obtain ⟨pq, cq, rfl⟩ := own_any14 ho
                      have HO8 := Lib.hid ho
                      replace hk := hold12 hb8 hk0
                      clear ho hk0 HBy
                      refine hK.out _ _ hk ?_
                      try simp only [Act.put, List.setIfInBounds_toArray, List.set_cons_zero, List.set_cons_succ]
                      clear hK
                      refine wpZ_one (i := 8) (by kernel_rfl) rfl (fun K' hK => ?_)
                      rw [if_pos (by kernel_rfl)]
                      go_simp
                      go_at_call 59
                      refine (HLs.out _).mono ?_
                      rintro r w9 ⟨rfl, hd9⟩
                      have hb9 := hd9.below
                      replace hk := hold12 hb9 hk
                      refine hK.out _ _ hk ?_
                      try simp only [Act.put, List.setIfInBounds_toArray, List.set_cons_zero, List.set_cons_succ]
                      clear hK hd9
                      refine wpZ_one (i := 13) (by kernel_rfl) rfl (fun K' hK => ?_)
                      rw [if_pos (by kernel_rfl)]
                      go_simp
                      go_at_call 60
                      refine (HMs.out _).mono ?_
                      rintro r w10 ⟨rfl, hd10⟩
                      have hb10 := hd10.below
                      replace hk := hold12 hb10 hk
                      refine hK.out _ _ hk ?_
                      try simp only [Act.put, List.setIfInBounds_toArray, List.set_cons_zero, List.set_cons_succ]
                      clear hK hd10
                      refine wpZ_take (i := 14) (oi := { dst := some 191, op := _, type := _, pos := _, after := _, guard := _ }) (v := .agg #[.slice pq l.length cq, .float .f64 mn, .float .f64 mx]) rfl (by kernel_rfl) (by kernel_rfl) (by kernel_rfl) (by kernel_rfl) (fun _ _ _ h => h) (Or.inl ⟨by kernel_rfl, fun w hSw => by (try dsimp only at hSw); first | (go_simp; done) | (go_simp; rfl)⟩) hk ?_
                      try simp only [Act.put, List.setIfInBounds_toArray, List.set_cons_zero, List.set_cons_succ]
                      refine wpZ_one (i := 15) (by kernel_rfl) rfl (fun K' hK => ?_)
                      rw [if_pos (by kernel_rfl)]
                      go_simp
                      have hbE8 := below_then (below_then hb9 hb10) (below_one w10 (.cells #[.slice pq l.length cq, .float .f64 mn, .float .f64 mx] 63))
                      have hbE := below_then hb8 hbE8
                      replace hk := hold12 (below_one w10 (.cells #[.slice pq l.length cq, .float .f64 mn, .float .f64 mx] 63)) hk
                      refine hK.out _ _ hk ?_
                      try simp only [Act.put, List.setIfInBounds_toArray, List.set_cons_zero, List.set_cons_succ]
                      clear hK
                      refine wpZ_one (i := 16) (by kernel_rfl) rfl (fun K' hK => ?_)
                      refine append_own_step14 _ (by rfl) _ _ _ (by rfl) w1.heap.size 63 i0 (.agg #[.slice none 0 0, .float .f64 0, .float .f64 0]) 3 40 Tryz.underlying39 hi hz0 hz1 hz2 zcells_real (by decide) _ rs.length (cellsR rs) (by rfl) (own_keep HRs.out.1 hbE) ⟨w10.heap.size, 0, none⟩ 1 1 [.slice pq l.length cq, .float .f64 mn, .float .f64 mx] (by rfl) (by rfl) (World.news_of_block (heap_alloc_new w10 _)) (by intro u hu; simp at hu; rcases hu with rfl | rfl | rfl <;> rfl) (by have := HRl.out; have := HLa.out.2.1; unfold maxLen; omega) (by have := HRl.out; have := HLa.out.2.1; omega) (by have h1 := hbE.size; omega) ?_
                      intro v' w11 hown hgrow
                      have hRE := HRs.out.below hbE
                      have hWE := HWs.out.below hbE
                      have HR11 := Lib.hid (RsOwn.push (x := ⟨l, mn, mx⟩) hRE (own_low14 (own_keep HO8.out hbE8) (Nat.le_trans (Nat.le_of_lt hClt) hS7)) hown hgrow)
                      have HW11 := Lib.hid (hWE.apart hRE.1 (by decide) (by decide) hgrow)
                      have hCE := (hbE.block _ (Nat.lt_of_lt_of_le hClt hS7)).trans HCc.out
                      have HC11 := Lib.hid (box_stay hCE hRE.1 (by decide) hgrow)
                      have hc11 := (box_reads HC11.out).1.2.2.2
                      have hf11 := (box_reads HC11.out).2 3
                      have HB11 := Lib.hid (Below.grown (HB7.out.trans (hbE.mono HB7.out.size)) hgrow (by have h1 := hbE.size; omega) (fun gg hg => (World.ownsRow.lt HRs.out.1 gg hg).1))
                      replace hk := grown12 hgrow HVl.out HP6.out hP7.1 hP7.2 hk hc11
                      clear hWE hRE hCE hbE hbE8 hb8 hb9 hb10
                      obtain ⟨pv', cv', rfl⟩ := own_any14 hown
                      clear hown hgrow
                      refine hK.out _ _ hk ?_
                      try simp only [Act.put, List.setIfInBounds_toArray]
                      clear hK
                      refine wpZ_take (i := 17) (oi := { dst := some 194, op := _, type := _, pos := _, after := _, guard := _ }) (v := .pointer (some ⟨w1.heap.size, 3, none⟩)) rfl (by kernel_rfl) (by kernel_rfl) (by kernel_rfl) (by kernel_rfl) (fun _ _ _ h => h) (Or.inl ⟨by kernel_rfl, fun w hSw => by (try dsimp only at hSw); first | (go_simp; done) | (go_simp; rfl)⟩) hk ?_
                      try simp only [Act.put]
                      refine wpZ_last (by kernel_rfl) rfl (fun K' hK => ?_)
                      rw [if_pos (by kernel_rfl)]
                      go_simp
                      refine hK.out _ _ ?_
                      try simp only [Act.put, List.setIfInBounds_toArray, List.set_cons_zero, List.set_cons_succ]
                      clear hK
                      refine wpZ_done (by kernel_rfl) ?_ _
                      have HC12 := Lib.hid (box_set3 (u := .slice pv' (rs.length + 1) cv') HC11.out)
                      have HW12 := Lib.hid (HW11.out.setbox (j := 3) (u := .slice pv' (rs.length + 1) cv') HC11.out (by decide) (by decide))
                      have HR12 := Lib.hid (HR11.out.setbox (j := 3) (u := .slice pv' (rs.length + 1) cv') HC11.out (by decide) (by decide))
                      have HB12 := Lib.hid (HB11.out.setCell (p := ⟨w1.heap.size, 3, none⟩) (Nat.le_refl _) (.slice pv' (rs.length + 1) cv'))
                      generalize w11.setCell ⟨w1.heap.size, 3, none⟩ (.slice pv' (rs.length + 1) cv') = w12 at *
                      clear hc11 hf11 hk
                      have h10 := HLa.out.2.1
                      go_wp2_with fail
                      go_roundw
                      case rel => exact ⟨k + 1, _, rs ++ [(.slice pq l.length cq, ⟨l, mn, mx⟩)], hle.out, by go_num, Lib.hid ⟨by simp [HRl.out], HB12.out, HC12.out, HW12.out, HR12.out, fun j hj => ⟨(if e : j < k then (HSj.out j e).1 else (show j = k by omega) ▸ HE0.out), snoc_jr (fun z => JR (rg a.ns j) (rg b.ns j) z) HRl.out hj (fun e => (HSj.out j e).2) (fun e => by subst e; exact HJz.out _ HEl.out rfl rfl)⟩⟩⟩
                      case measure => simp [intOf]; omega
                    · have HR := Lib.hid (show errJ a b = 10 by have q := HEr.out; rw [if_pos ⟨ea, eb⟩, if_neg (show ¬ bitsZ ((readT la + readT lb).natAbs : Int) ≤ 2240 from hft)] at q; exact (HNo.out (by rw [q]; decide)).trans q)
                      have HJo := Lib.hid (rsjoin_over w5 _ _ _ _ _ _ HSA2 HSB2 hft)
                      clear HSA HSB HSA2 HSB2 HNo HEr HJk ea eb hft r0 r1 r2 r3 rf
                      generalize readF la = F at *
                      go_wp2_with fail
                      refine HJo.out.mono ?_
                      rintro e w6 ⟨⟨v0, rfl, nj, jp, jn, jc, rfl, hj1, hj2⟩, hb6⟩
                      have h6 := below_then hb6 (below_one w6 (.cells #[.bool (bitB F 0), .bool (bitB F 1), .bool (bitB F 2), .bool (bitB F 3), .bool (bitB F 4), .bool nj, .slice jp jn jc] 95))
                      have HX37 := Lib.hid (show (w6.alloc (.cells #[.bool (bitB F 0), .bool (bitB F 1), .bool (bitB F 2), .bool (bitB F 3), .bool (bitB F 4), .bool nj, .slice jp jn jc] 95)).heap[w.heap.size + 1 + 1]? = some (.cells (boxV 0 0 (.slice none 0 0) (.slice none 0 0)) 41 (0, 0)) from heap_then HX35.out h6)
                      have HB07 := Lib.hid (below_then HB05.out h6)
                      clear h6 hj1 hj2 hb6 HJo k0 k1 k2' k3 k4 k5 k6 l0 l1 l2 l3 l4 l5 l6
                      go_upto_region 26 with fail
                      generalize w6.alloc (.cells #[.bool (bitB F 0), .bool (bitB F 1), .bool (bitB F 2), .bool (bitB F 3), .bool (bitB F 4), .bool nj, .slice jp jn jc] 95) = w7 at *
                      obtain ⟨⟨r0, r1, r2, r3⟩, rf⟩ := box_reads HX37.out
                      go_wp2_with fail
                      have hs4 := set4_box (k' := 0) (n' := 0) (I' := .slice none 0 0) (N' := .slice none 0 0) (HX37.out)
                      have hbl := set4_below (R := w.heap.size + 1 + 1) (k' := 0) (n' := 0) (I' := .slice none 0 0) (N' := .slice none 0 0) (HB07.out) (by omega)
                      unfold set4 at hs4 hbl
                      generalize (((w7.setCell ⟨w.heap.size + 1 + 1, 0, none⟩ (.int .u64 0)).setCell ⟨w.heap.size + 1 + 1, 1, none⟩ (.int .i64 0)).setCell ⟨w.heap.size + 1 + 1, 2, none⟩ (.slice none 0 0)).setCell ⟨w.heap.size + 1 + 1, 3, none⟩ (.slice none 0 0) = W4 at *
                      obtain ⟨⟨s0, s1, s2, s3⟩, -⟩ := box_reads hs4
                      exact bodyPost_ret (v := .tuple #[CeV ce0 (.slice none 0 0) (.slice none 0 0), .int .i64 10]) (by simp [results, Tryz.results21, go_sem, ce0, s0, s1, s2, s3]) rfl (rj_no HR.out (by decide) hbl)
                  · have hea : ((errN la : Int) != 0) = false := by rw [ea]; rfl
                    have heb : ((errN lb : Int) != 0) = true := by simp [eb]
                    have HR := Lib.hid (show errJ a b = 13 by have q := HEr.out; rw [if_neg (fun q => eb q.2)] at q; exact (HNo.out (by rw [q]; decide)).trans q)
                    go_wp2_with fail
                    have hs4 := set4_box (k' := 0) (n' := 0) (I' := .slice none 0 0) (N' := .slice none 0 0) (HX35.out)
                    have hbl := set4_below (R := w.heap.size + 1 + 1) (k' := 0) (n' := 0) (I' := .slice none 0 0) (N' := .slice none 0 0) (HB05.out) (by omega)
                    unfold set4 at hs4 hbl
                    generalize (((w5.setCell ⟨w.heap.size + 1 + 1, 0, none⟩ (.int .u64 0)).setCell ⟨w.heap.size + 1 + 1, 1, none⟩ (.int .i64 0)).setCell ⟨w.heap.size + 1 + 1, 2, none⟩ (.slice none 0 0)).setCell ⟨w.heap.size + 1 + 1, 3, none⟩ (.slice none 0 0) = W4 at *
                    obtain ⟨⟨s0, s1, s2, s3⟩, -⟩ := box_reads hs4
                    exact bodyPost_ret (v := .tuple #[CeV ce0 (.slice none 0 0) (.slice none 0 0), .int .i64 13]) (by simp [results, Tryz.results21, go_sem, ce0, s0, s1, s2, s3]) rfl (rj_no HR.out (by decide) hbl)
                · have hea : ((errN la : Int) != 0) = true := by simp [ea]
                  have HR := Lib.hid (show errJ a b = 13 by have q := HEr.out; rw [if_neg (fun q => ea q.1)] at q; exact (HNo.out (by rw [q]; decide)).trans q)
                  go_wp2_with fail
                  have hs4 := set4_box (k' := 0) (n' := 0) (I' := .slice none 0 0) (N' := .slice none 0 0) (HX35.out)
                  have hbl := set4_below (R := w.heap.size + 1 + 1) (k' := 0) (n' := 0) (I' := .slice none 0 0) (N' := .slice none 0 0) (HB05.out) (by omega)
                  unfold set4 at hs4 hbl
                  generalize (((w5.setCell ⟨w.heap.size + 1 + 1, 0, none⟩ (.int .u64 0)).setCell ⟨w.heap.size + 1 + 1, 1, none⟩ (.int .i64 0)).setCell ⟨w.heap.size + 1 + 1, 2, none⟩ (.slice none 0 0)).setCell ⟨w.heap.size + 1 + 1, 3, none⟩ (.slice none 0 0) = W4 at *
                  obtain ⟨⟨s0, s1, s2, s3⟩, -⟩ := box_reads hs4
                  exact bodyPost_ret (v := .tuple #[CeV ce0 (.slice none 0 0) (.slice none 0 0), .int .i64 13]) (by simp [results, Tryz.results21, go_sem, ce0, s0, s1, s2, s3]) rfl (rj_no HR.out (by decide) hbl)
            · obtain rfl : k = a.ns.length := by omega
              have HR := Lib.hid (show errJ a b = 0 from HAll.out.trans (first_zero _ fun j hj => (HS.out.2.2.2.2.2 j hj).1))
              have HX3e := Lib.hid (show wr.heap[w.heap.size + 1 + 1]? = some (.cells (boxV 0 0 (.slice none 0 0) (.slice none 0 0)) 41 (0, 0)) by rw [HB.out.block _ hR1]; exact HX31.out)
              obtain ⟨⟨r0, r1, r2, r3⟩, rf⟩ := box_reads HX3e.out
              obtain ⟨c0, c1, c2, c3⟩ := (box_reads HS.out.2.2.1).1
              have HB0e := Lib.hid (below_then HB1.out HB.out)
              clear z3 hk hlk
              obtain ⟨pv, cv, rfl⟩ := own_any14 HS.out.2.2.2.1.1
              obtain ⟨pv2, cv2, rfl⟩ := own_any14 HS.out.2.2.2.2.1.1
              go_wp2_with fail
              obtain ⟨hF, rfl⟩ := HFc.out
              have hs4 := set4_box (k' := a.key) (n' := a.cnt + b.cnt) (I' := .slice pv ps.length cv) (N' := .slice pv2 rs.length cv2) (HX3e.out)
              have hbl := set4_below (R := w.heap.size + 1 + 1) (k' := a.key) (n' := a.cnt + b.cnt) (I' := .slice pv ps.length cv) (N' := .slice pv2 rs.length cv2) (HB0e.out) (by omega)
              have hws := set4_ws (k' := a.key) (n' := a.cnt + b.cnt) (I' := .slice pv ps.length cv) (N' := .slice pv2 rs.length cv2) (HX3e.out) (by decide) (by decide) HS.out.2.2.2.1
              have hrs := set4_rs (k' := a.key) (n' := a.cnt + b.cnt) (I' := .slice pv ps.length cv) (N' := .slice pv2 rs.length cv2) (HX3e.out) (by decide) (by decide) HS.out.2.2.2.2.1
              have hjc : JC a b ⟨a.key, a.cnt + b.cnt, ps.map Prod.snd, rs.map Prod.snd⟩ := ⟨rfl, rfl, by simp [HJW.out.1], by simp [HS.out.1], HJW.out.2, fun j hj => (HS.out.2.2.2.2.2 j hj).2⟩
              unfold set4 at hs4 hbl hws hrs
              generalize (((wr.setCell ⟨w.heap.size + 1 + 1, 0, none⟩ (.int .u64 a.key)).setCell ⟨w.heap.size + 1 + 1, 1, none⟩ (.int .i64 (a.cnt + b.cnt))).setCell ⟨w.heap.size + 1 + 1, 2, none⟩ (.slice pv ps.length cv)).setCell ⟨w.heap.size + 1 + 1, 3, none⟩ (.slice pv2 rs.length cv2) = W4 at *
              obtain ⟨⟨s0, s1, s2, s3⟩, -⟩ := box_reads hs4
              exact bodyPost_ret (v := .tuple #[CeV ⟨a.key, a.cnt + b.cnt, ps.map Prod.snd, rs.map Prod.snd⟩ (.slice pv ps.length cv) (.slice pv2 rs.length cv2), .int .i64 0]) (by simp [results, Tryz.results21, go_sem, s0, s1, s2, s3]) rfl (rj_yes HR.out ⟨hws.wholes, hrs.reals⟩ hjc hbl)
end Go.Proofs.YtigikgphipebiaaGreatDoor
