/- Layer 16: the program's Least and Sort. -/
import Derived.Test.YtgiekjckfgdfnaaTouf
namespace Go.Proofs.Ytgiekjckfgdfnaa
set_option maxRecDepth 100000
open Go.RowKit
set_option linter.unusedVariables false
theorem own_setbox16 {w : World} {C j B E sz n : Nat} {T : TypeId} {cs : Array Value} {u v : Value} {xs : List Value} (ho : w.ownsRow B E sz v n xs) (h : w.heap[C]? = some (.cells cs T (0, 0))) (hT : T ≠ E) : (w.setCell ⟨C, j, none⟩ u).ownsRow B E sz v n xs := by
  refine ownsRow_setCell_other ho ?_ u
  rcases ho.2 with ⟨rfl, -⟩ | ⟨g, cap, cur, rfl, -, h3, -⟩
  · simp [Value.ownBlock]
  · intro e
    have e2 : g = C := by simpa [Value.ownBlock] using e
    subst e2
    rw [h] at h3
    have := Option.some.inj h3
    injection this with _ e3 _
    exact hT e3
theorem one_cells16 (w : World) (x : Value) (T : TypeId) : ∀ j u, [x][j]? = some u → (w.alloc (.cells #[x] T)).cell? ((⟨w.heap.size, 0, none⟩ : Addr).add j) = some u := by
  intro j u hj
  have hl := (List.getElem?_eq_some_iff.1 hj).1
  have hl2 : j < 1 := hl
  obtain rfl : j = 0 := by omega
  simpa [Addr.add, go_sem] using hj
theorem cell_one16 {w : World} {N : Nat} {x : Value} {T : TypeId} (h : w.heap[N]? = some (.cells #[x] T (0, 0))) : w.cell? ⟨N, 0, none⟩ = some x := by simp [World.cell?, h]
theorem zcells_int16 : (Value.int .i64 0).cells.size = 1 := by simp [Value.cells]
theorem own_any16 {w : World} {B E sz n : Nat} {v : Value} {xs : List Value} (h : w.ownsRow B E sz v n xs) : ∃ a c, v = .slice a n c := by
  rcases h.2 with ⟨rfl, h0⟩ | ⟨g, cap, cur, rfl, -⟩
  · exact ⟨none, 0, by rw [h0]⟩
  · exact ⟨_, cap, rfl⟩
theorem own_low16 {w : World} {B B' E sz n : Nat} {v : Value} {xs : List Value} (h : w.ownsRow B E sz v n xs) (hb : B' ≤ B) : w.ownsRow B' E sz v n xs := by
  refine ⟨h.1, ?_⟩
  rcases h.2 with h0 | ⟨g, cap, cur, h1, h2, h3⟩
  · exact .inl h0
  · exact .inr ⟨g, cap, cur, h1, Nat.le_trans hb h2, h3⟩
theorem own_touch {w w' : World} {Q V B E sz n : Nat} {v : Value} {xs : List Value} (h : w.ownsRow B E sz v n xs) (ht : Touch Q V w w') (hQ : Q < B) (hV : V < B) : w'.ownsRow B E sz v n xs := by
  refine ⟨h.1, h.2.imp id ?_⟩
  rintro ⟨g, cap, cur, e, h2, h3, h4⟩
  exact ⟨g, cap, cur, e, h2, by rw [ht.block g (Array.getElem?_eq_some_iff.1 h3).1 (by omega) (by omega)]; exact h3, h4⟩
theorem Que.keepB {w w' : World} {B Q V cap : Nat} {a : Option Addr} {f : Value} {L : List Nat} (h : Que w Q V a cap f L) (hb : Below B w w') (hQ : Q < B) (hV : V < B) : Que w' Q V a cap f L :=
  ⟨(hb.block _ hQ).trans h.box, h.cap, h.few, h.row.imp id fun ⟨e, cur, h1, h2⟩ => ⟨e, cur, (hb.block _ hV).trans h1, h2⟩, h.ne⟩
theorem QSt.keepB {w0 w w' : World} {B M Q V : Nat} {v : Value} {Ls : List (List Int)} {a : Option Addr} {cap : Nat} {L : List Nat} (h : QSt w0 w M Q V v Ls a cap L) (hb : Below B w w') (h0 : w0.heap.size ≤ B) (hM : M < B) (hQ : Q < B) (hV : V < B) : QSt w0 w' M Q V v Ls a cap L :=
  ⟨(World.cell?_of_block (hb.block M hM)).trans h.m, h.b0, h.lo.trans (hb.mono h0), h.q.keepB hb hQ hV, h.s, h.ge⟩
theorem Below.own16 {B : Nat} {w w' : World} {E sz n : Nat} {v : Value} {xs : List Value} (ho : w.ownsRow B E sz v n xs) (hB : B ≤ w.heap.size) (hg : w.grownBy w' v.ownBlock) : Below B w w' :=
  ⟨hg.os, hg.tape, hg.output, hg.size, fun k hk => hg.block k (by omega) (fun e => by
    rcases ho.2 with ⟨rfl, -⟩ | ⟨g, cap, cur, rfl, h2, -⟩
    · simp [Value.ownBlock] at e
    · have : k = g := by simpa [Value.ownBlock] using e
      omega)⟩
abbrev intsN (L : List Nat) : List Value := L.map fun (i : Nat) => Value.int .i64 (i : Int)
/-- While the queue is filled. -/
structure FillQ (w wr : World) (v : Value) (k : Nat) (vq : Value) : Prop where
  bel : Below w.heap.size w wr
  m : wr.cell? ⟨w.heap.size, 0, none⟩ = some v
  box : wr.heap[w.heap.size + 1]? = some (.cells #[vq, clF w.heap.size] 34 (0, 0))
  own : wr.ownsRow (w.heap.size + 2) 3 1 vq k (intsN (List.range k))
theorem FillQ.reads {w wr : World} {v : Value} {k : Nat} {vq : Value} (h : FillQ w wr v k vq) : wr.cell? ⟨w.heap.size + 1, 0, none⟩ = some vq ∧ ∀ j, wr.frozen? ⟨w.heap.size + 1, j, none⟩ = false :=
  ⟨by simp [World.cell?, h.box], fun j => by simp [World.frozen?, h.box]⟩
theorem FillQ.step {w wr W w3 : World} {v : Value} {k : Nat} {vq v' : Value} (h : FillQ w wr v k vq) (hW : Below wr.heap.size wr W) (ho : w3.ownsRow (w.heap.size + 2) 3 1 v' (k + 1) (intsN (List.range k) ++ [.int .i64 (k : Int)])) (hg : W.grownBy w3 vq.ownBlock) :
    w3.cell? ⟨w.heap.size + 1, 0, none⟩ = some vq ∧ w3.frozen? ⟨w.heap.size + 1, 0, none⟩ = false ∧ FillQ w (w3.setCell ⟨w.heap.size + 1, 0, none⟩ v') v (k + 1) v' := by
  have hge : ∀ g, vq.ownBlock = some g → w.heap.size + 2 ≤ g := fun g hg => by
    rcases h.own.2 with ⟨rfl, -⟩ | ⟨g', cap, cur, rfl, h2, -⟩
    · simp [Value.ownBlock] at hg
    · simp [Value.ownBlock] at hg; subst hg; exact h2
  have hlt : w.heap.size + 1 < wr.heap.size := (Array.getElem?_eq_some_iff.1 h.box).1
  have hs := hW.size
  have hblk : ∀ j, j < w.heap.size + 2 → w3.heap[j]? = wr.heap[j]? := fun j hj =>
    (hg.block j (by omega) (fun e => by have := hge _ e.symm; omega)).trans (hW.block j (by omega))
  have hbox := (hblk (w.heap.size + 1) (by omega)).trans h.box
  have hbel : Below w.heap.size w w3 := ⟨hg.os.trans (hW.os.trans h.bel.os), hg.tape.trans (hW.tape.trans h.bel.tape), hg.output.trans (hW.output.trans h.bel.output), Nat.le_trans h.bel.size (Nat.le_trans hs hg.size), fun j hj => (hblk j (by omega)).trans (h.bel.block j hj)⟩
  refine ⟨by simp [World.cell?, hbox], by simp [World.frozen?, hbox], hbel.setCell (show w.heap.size ≤ w.heap.size + 1 by omega) _, ?_, by simp [World.setCell, Array.getElem?_modify, hbox], ?_⟩
  · have e : w3.cell? ⟨w.heap.size, 0, none⟩ = some v := (World.cell?_of_block (a := ⟨w.heap.size, 0, none⟩) (hblk w.heap.size (by omega))).trans h.m
    rw [World.cell?_of_block]
    · exact e
    · simp [World.setCell, Array.getElem?_modify]
  · have e : intsN (List.range (k + 1)) = intsN (List.range k) ++ [.int .i64 (k : Int)] := by simp [intsN, List.range_succ]
    rw [e]
    exact own_setbox16 ho hbox (by decide)
theorem assert_int (x : Int) (w : World) : (Instr.typeAssert (.iface 3 (.int .i64 x)) 20 3 false).run Try.prog w = .ok (.int .i64 x) w := by
  simp [Instr.typeAssert, run_underlying Try.underlying3, go_sem]
theorem hg_range {n i : Nat} (h : i < n) : hg (List.range n) i = i := by simp [hg, List.getD, h]
theorem FillQ.fin {w wr : World} {v : Value} {n : Nat} {vq : Value} {Ls : List (List Int)} (h : FillQ w wr v n vq) (hb : Byss w v Ls) (hn : n = Ls.length) (h2 : n ≤ 1000) :
    ∃ a cap V, vq = .slice a n cap ∧ QSt w wr w.heap.size (w.heap.size + 1) V v Ls a cap (List.range n) ∧ (0 < n → V < wr.heap.size) := by
  have hs : ∀ x ∈ List.range n, x < Ls.length := fun x hx => by have := List.mem_range.1 hx; omega
  rcases h.own.2 with ⟨rfl, h0⟩ | ⟨g, cap, cur, rfl, h2', h3, h4, h5, h6, h7⟩
  · subst h0
    exact ⟨none, 0, w.heap.size + 2, rfl, ⟨h.m, hb, h.bel, ⟨h.box, by simp, by simp, .inl rfl, by omega⟩, hs, by omega⟩, fun q => by omega⟩
  · refine ⟨some ⟨g, 0, none⟩, cap, g, rfl, ⟨h.m, hb, h.bel, ⟨by simpa using h.box, by simpa using h4, by simpa using h2, .inr ⟨rfl, cur, h3, by rw [h6]; simpa using h4, fun i hi => ?_⟩, by omega⟩, hs, by omega⟩, fun _ => (Array.getElem?_eq_some_iff.1 h3).1⟩
    have hi2 : i < n := by simpa using hi
    have e1 : cur.toList[i]? = (cur.toList.take (n * 1))[i]? := by rw [List.getElem?_take, if_pos (by omega)]
    rw [hg_range hi2]
    rw [h7] at e1
    rw [← Array.getElem?_toList, e1]
    simp [intsN, hi2]
/-- What Least hands back: the first of all places in their order. -/
def LeastL (Ls : List (List Int)) (k : Int) (F : List Nat) : Prop := (∃ L, PopI (ltB fun k => Ls.getD k []) Ls.length F L) ∧ F.length = (min k Ls.length).toNat
set_option maxHeartbeats 16000000 in
theorem least_any (w : World) (v : Value) (Ls : List (List Int)) (k : Int) (h : Byss w v Ls) (hbt : ∀ l ∈ Ls, Bt l) (hn : Ls.length ≤ 1000) (hk0 : -9223372036854775808 ≤ k) (hk1 : k ≤ 9223372036854775807) :
    Calls Try.prog 6 #[v, .int .i64 k] w fun e w' => (∃ u, e = .returned u ∧ ∃ F, LeastL Ls k F ∧ w'.ownsRow w.heap.size 3 1 u F.length (intsN F)) ∧ Below w.heap.size w w' := by
  obtain ⟨i0, hi, hz0, hz1, hz2⟩ := info_parts Try.infoInt16
  have HIn := Lib.hid (fun w1 a cap V (h1 : QSt w w1 w.heap.size (w.heap.size + 1) V v Ls a cap (List.range Ls.length)) => init_any w w1 w.heap.size (w.heap.size + 1) V v Ls a cap (List.range Ls.length) h1 hbt)
  have HPo := Lib.hid (fun w1 a cap V L (h1 : QSt w w1 w.heap.size (w.heap.size + 1) V v Ls a cap L) (h0 : 0 < L.length) (hp : HeapF (ltB fun k => Ls.getD k []) L L.length 0) => hpop_any w w1 w.heap.size (w.heap.size + 1) V v Ls a cap L h1 hbt h0 hp)
  have HO := Lib.hid (ltB_ord fun k => Ls.getD k [])
  have HB := Lib.hid h
  obtain ⟨va, vc, rfl, -⟩ := h.r
  have HF0 := Lib.hid (show FillQ w ((w.alloc (.cells #[.slice va Ls.length vc] 22)).alloc (.cells #[.slice none 0 0, clF w.heap.size] 34)) (.slice va Ls.length vc) 0 (.slice none 0 0) from by
    have e := heap_alloc_new w (.cells #[.slice va Ls.length vc] 22)
    have e2 := heap_alloc_new (w.alloc (.cells #[.slice va Ls.length vc] 22)) (.cells #[.slice none 0 0, clF w.heap.size] 34)
    have hs : (w.alloc (.cells #[.slice va Ls.length vc] 22)).heap.size = w.heap.size + 1 := by simp
    rw [hs] at e2
    have hb1 := below_one w (.cells #[.slice va Ls.length vc] 22)
    have hb2 := below_one (w.alloc (.cells #[.slice va Ls.length vc] 22)) (.cells #[.slice none 0 0, clF w.heap.size] 34)
    refine ⟨hb1.trans (hb2.mono (by omega)), ?_, e2, ⟨by simp [intsN], .inl ⟨rfl, rfl⟩⟩⟩
    exact cell_later hb2 (cell_one16 e))
  unfold LeastL
  clear h hbt
  generalize hlt : (ltB fun k => Ls.getD k []) = lt at *
  clear hlt
  have HN := Lib.hid hn
  go_enter Try.func6, Try.ntmps6
  go_upto_region 2 with fail
  generalize (w.alloc (.cells #[.slice va Ls.length vc] 22)).alloc (.cells #[.slice none 0 0, .func (.func 9) #[] #[.pointer (some ⟨w.heap.size, 0, none⟩)]] 34) = W0 at *
  have m0 := HF0.out.m
  go_wp2_with fail
  clear m0
  go_loopw [13] (fun iv wr => ∃ (t : Nat) (vq : Value), t ≤ Ls.length ∧ iv = .int .i64 t ∧ Hid (FillQ w wr (.slice va Ls.length vc) t vq)) (fun iv _ => Ls.length - (intOf iv).toNat)
  case atStart => exact ⟨0, _, Nat.zero_le _, rfl, HF0⟩
  case round =>
    obtain ⟨t, vq, ht, rfl, HF⟩ := hrel
    by_cases hl : t < Ls.length
    · have hl' : (t : Int) < (Ls.length : Int) := by omega
      obtain ⟨pa, pc, rfl⟩ := own_any16 HF.out.own
      obtain ⟨x0, -⟩ := HF.out.reads
      have hsz := HF.out.bel.size
      have hlt2 : w.heap.size + 2 ≤ wr.heap.size := (Array.getElem?_eq_some_iff.1 HF.out.box).1
      go_wp2_with (at_builtin; refine wpList_append_own _ rfl _ _ 26 rfl (w.heap.size + 2) 3 i0 (.int .i64 0) 1 8 Try.underlying26 hi hz0 hz1 hz2 zcells_int16 (by decide) _ _ (intsN (List.range t)) rfl (HF.out.own.alloc _) ⟨wr.heap.size, 0, none⟩ 1 1 [Value.int .i64 (t : Int)] rfl rfl (one_cells16 wr (Value.int .i64 (t : Int)) 3) (by intro u hu; simp at hu; rcases hu with rfl; rfl) (by have := HN.out; unfold maxLen; omega) (by have := HN.out; omega) (by simp; omega) ?_; intro v' w3 hown hgrow hiff; clear hiff; obtain ⟨y0, y1, hf⟩ := HF.out.step (below_one _ _) hown hgrow; have HF2 := Lib.hid hf; obtain ⟨pb, pd, rfl⟩ := own_any16 hown; clear hown hgrow hf)
      go_roundw
      case rel => exact ⟨t + 1, _, by omega, by go_num, HF2⟩
      case measure => simp [intOf]; omega
    · have e : t = Ls.length := by omega
      subst e
      have hl' : ¬ (Ls.length : Int) < (Ls.length : Int) := by omega
      obtain ⟨a, cap, V, rfl, hq, hv⟩ := HF.out.fin HB.out rfl HN.out
      have HV := Lib.hid hv
      have HI := Lib.hid (HIn.out wr a cap V hq)
      clear hq hv HF HF0 HIn
      go_wp2_with fail
      refine HI.out.mono ?_; rintro e w2 ⟨⟨r, rfl⟩, L1, hp, hh, hq, ht2⟩
      have hs2 := ht2.size
      have HV2 := Lib.hid (show 0 < Ls.length → V < w2.heap.size from fun q => Nat.lt_of_lt_of_le (HV.out q) hs2)
      have hQ2 : w.heap.size + 1 < w2.heap.size := hq.q.lt
      rw [List.length_range] at hh
      have HP0 := Lib.hid (show PopI lt Ls.length [] L1 from ⟨by simpa using hp, by rw [hp.length_eq, List.length_range]; exact hh, List.Pairwise.nil, fun f hf => by cases hf⟩)
      have HQ0 := Lib.hid hq
      have m1 := hq.m
      clear hp hh hq ht2 HI HV hl hs2 hl' ht
      go_wp2_with fail
      clear m1
      go_loopw [34, 7] (fun iv fv wr => ∃ (t : Nat) (F L1 : List Nat), iv = .int .i64 t ∧ F.length = t ∧ (t : Int) ≤ max (min k Ls.length) 0 ∧ Hid (PopI lt Ls.length F L1) ∧ Hid (QSt w wr w.heap.size (w.heap.size + 1) V (.slice va Ls.length vc) Ls a cap L1) ∧ Hid (wr.ownsRow w2.heap.size 3 1 fv t (intsN F)) ∧ Hid (w2.heap.size ≤ wr.heap.size)) (fun iv _ _ => Ls.length - (intOf iv).toNat)
      case atStart => exact ⟨0, [], L1, rfl, rfl, by show (0 : Int) ≤ _; omega, HP0, HQ0, Lib.hid ⟨by simp [intsN], .inl ⟨rfl, rfl⟩⟩, Lib.hid (Nat.le_refl _)⟩
      case round =>
        obtain ⟨t, F, L2, rfl, hF, ht, HP, HQ, HO2, HS⟩ := hrel
        obtain ⟨pa, pc, rfl⟩ := own_any16 HO2.out
        by_cases hl : (t : Int) < min k Ls.length
        · have hlen : F.length + L2.length = Ls.length := by have := HP.out.pm.length_eq; simpa using this
          have hpos : 0 < L2.length := by omega
          have hVlt := HV2.out (by omega)
          have HPk := Lib.hid (HPo.out wr a cap V L2 HQ.out hpos HP.out.hp)
          have htn : t ≤ 1000 := by have := HN.out; omega
          have HLp := Lib.hid hpos
          clear hpos hlen
          go_wp2_with fail
          refine HPk.out.mono ?_; rintro e w4 ⟨rfl, L3, hd, hq4, ht4⟩
          obtain ⟨-, -, hp4⟩ := pop_step HO.out HP.out HLp.out hd
          have HP4 := Lib.hid hp4
          have HQ4 := Lib.hid hq4
          have HO4 := Lib.hid (own_touch HO2.out ht4 hQ2 hVlt)
          have HS4 := Lib.hid (Nat.le_trans HS.out ht4.size)
          clear hd hq4 ht4 hp4 HPk HP HQ HO2 HS HLp
          generalize hg L2 0 = x at *
          generalize L3.take (L2.length - 1) = L4 at *
          clear L3
          go_wp2_with (first | (simp only [assert_int]) | at_builtin; refine wpList_append_own _ rfl _ _ 26 rfl w2.heap.size 3 i0 (.int .i64 0) 1 8 Try.underlying26 hi hz0 hz1 hz2 zcells_int16 (by decide) _ _ (intsN F) rfl (HO4.out.alloc _) ⟨w4.heap.size, 0, none⟩ 1 1 [Value.int .i64 (x : Int)] rfl rfl (one_cells16 w4 (Value.int .i64 (x : Int)) 3) (by intro u hu; simp at hu; rcases hu with rfl; rfl) (by unfold maxLen; omega) (by omega) (by have := HS4.out; simp; omega) ?_; intro v' w5 hown hgrow hiff; clear hiff; have HB5 := Lib.hid (((below_one w4 (.cells #[Value.int .i64 (x : Int)] 3)).mono HS4.out).trans (Below.own16 (HO4.out.alloc _) (by have := HS4.out; simp; omega) hgrow)); have HO5 := Lib.hid hown; obtain ⟨pb, pd, rfl⟩ := own_any16 hown; clear hown hgrow)
          go_roundw
          case rel => exact ⟨t + 1, F ++ [x], L4, by go_num, by simp [hF], by omega, HP4, Lib.hid (HQ4.out.keepB HB5.out (by omega) (by omega) hQ2 hVlt), Lib.hid (by rw [show intsN (F ++ [x]) = intsN F ++ [Value.int .i64 (x : Int)] by simp [intsN]]; exact HO5.out), Lib.hid (Nat.le_trans HS4.out HB5.out.size)⟩
          case measure => simp [intOf]; omega
        · go_wp2_with fail
          go_ret
          exact ⟨⟨_, rfl, F, ⟨⟨L2, HP.out⟩, by omega⟩, by rw [hF]; exact own_low16 HO2.out (by omega)⟩, HQ.out.lo⟩
end Go.Proofs.Ytgiekjckfgdfnaa
