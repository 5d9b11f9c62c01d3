/- Layer 17: the reference's put, Order. -/
import Derived.Test.YtdopgpijbilffaaLatl
namespace Go.Proofs.Ytdopgpijbilffaa
set_option maxRecDepth 100000
open Go.RowKit
set_option linter.unusedVariables false
theorem natsI_take (l : List Nat) (n : Nat) : natsI (l.take n) = (natsI l).take n := by simp [natsI, List.map_take]
theorem natsI_drop (l : List Nat) (n : Nat) : natsI (l.drop n) = (natsI l).drop n := by simp [natsI, List.map_drop]
theorem natsI_app (l m : List Nat) : natsI (l ++ m) = natsI l ++ natsI m := by simp [natsI]
theorem Msk.below {w w' : World} {v : Value} {l : List Nat} (h : Msk w v l) (hb : Below w.heap.size w w') : Msk w' v l := Ints.below h hb
/-- A row of the call's own that holds these sets. -/
abbrev UOwn (w : World) (B : Nat) (v : Value) (l : List Nat) : Prop := w.ownsRow B 22 1 v (natsI l).length ((natsI l).map (Value.int .u32))
theorem UOwn.msk {w : World} {B : Nat} {v : Value} {l : List Nat} (h : UOwn w B v l) : Msk w v l := Ints.own h
theorem UOwn.nil (w : World) (B : Nat) : UOwn w B (.slice none 0 0) [] := ⟨by simp [natsI], .inl ⟨rfl, rfl⟩⟩
theorem UOwn.form {w : World} {B : Nat} {v : Value} {l : List Nat} (h : UOwn w B v l) : ∃ a c, v = .slice a l.length c := by
  obtain ⟨a, c, e⟩ := own_slice h
  exact ⟨a, c, by rw [e, natsI_len]⟩
/-- An append of sets that are read elsewhere to a row of the call's own. -/
theorem run_app17 (w : World) (ty : TypeId) (base : Nat) (v v2 : Value) (l m : List Nat) (hown : UOwn w base v l) (hv2 : Msk w v2 m) (hl : l.length + m.length ≤ 1000000) (hbase : base ≤ w.heap.size) :
    ∃ v' w', (Builtin.append_ #[23, 23] ty #[v, v2]).run Try.prog w = .ok v' w' ∧ UOwn w' base v' (l ++ m) ∧ w.grownBy w' v.ownBlock := by
  obtain ⟨i0, hi, hz0, hz1, hz2⟩ := info_parts infoU32
  have := app17_run (P := Try.prog) w base 23 ty 22 i0 (.int .u32 0) 4 Try.underlying23 hi hz0 hz1 hz2 (by rfl) .u32 v v2 (natsI l) (natsI m) hown hv2 (by rw [natsI_len, natsI_len]; unfold maxLen; omega) (by rw [natsI_len, natsI_len]; omega) hbase
  rw [← natsI_app] at this
  exact this
theorem cut_u32 {w : World} {a : Option Addr} {n cap : Nat} {l : List Nat} (h : Msk w (.slice a n cap) l) {k : Nat} (hk : k ≤ l.length) : Msk w (.slice a k cap) (l.take k) := by
  have h1 := Ints.take h (n := k) (by rw [natsI_len]; exact hk)
  rw [← natsI_take] at h1
  exact h1
theorem own_below17 {B : Nat} {w w1 : World} {o : Value} {E n : Nat} {xs : List Value} (hB : B ≤ w.heap.size) (hnx : Below B w w) (h : w.ownsRow B E 1 o n xs) (hg : w.grownBy w1 o.ownBlock) : Below B w w1 :=
  hnx.grown hg hB (fun k hk => (h.lt k hk).1)
/-- A part of a slice. -/
theorem cut_ints17 {w : World} {a : Option Addr} {cap : Nat} {b : List Int} (hv : Ints .u32 w (.slice a b.length cap) b) {k h : Nat} (hk : k ≤ h) (hh : h ≤ b.length) :
    Ints .u32 w (.slice (if cap = k then a else a.map (·.add (k * 1))) (h - k) (cap - k)) ((b.take h).drop k) := by
  obtain ⟨a', cap', e, hc, ha⟩ := hv
  simp only [Value.slice.injEq, true_and] at e
  obtain ⟨rfl, rfl⟩ := e
  have hl : ((b.take h).drop k).length = h - k := by simp; omega
  by_cases h0 : h = k
  · subst h0
    refine ⟨_, _, by rw [hl], by rw [hl]; omega, .inl ?_⟩
    exact List.length_eq_zero_iff.1 (by rw [hl]; omega)
  · rcases ha with h' | ⟨bb, off, rfl, hbl, hcell⟩
    · subst h'; simp at hh; omega
    · rw [if_neg (by omega)]
      refine ⟨some ⟨bb, off + k, none⟩, cap - k, ?_, by rw [hl]; omega, .inr ⟨bb, off + k, rfl, hbl, fun i hi => ?_⟩⟩
      · rw [hl, Nat.mul_one]
        by_cases k0 : k = 0
        · subst k0; simp [Addr.add]
        · simp [Addr.add, k0]
      · rw [hl] at hi
        have := hcell (k + i) (by omega)
        rw [show off + k + i = off + (k + i) by omega, this]
        congr 2
        simp [List.getD, show k + i < b.length by omega, show k + i < h by omega, List.getElem?_drop]
theorem drop_as17 {b : List Int} (k : Nat) : (b.take b.length).drop k = b.drop k := by rw [List.take_length]
theorem run_from17 {w : World} {a : Option Addr} {cap l k : Nat} (hk : k ≤ l) (hs : ∃ i, Try.prog.info? 22 = some i ∧ i.size = 1) : (Instr.slice 23 (.slice a l cap) (some (.int .i64 k)) none none).run Try.prog w = .ok (.slice (if cap = k then a else a.map (·.add (k * 1))) (l - k) (cap - k)) w := by
  obtain ⟨i, hi, hs⟩ := hs
  simp [Instr.slice, run_underlying Try.underlying23, Instr.sliceBounds, Instr.sliceBound, asIntOf, sizeOf, typeInfo, hi, hs, hk, go_sem]
theorem run_upto17 {w : World} {a : Option Addr} {cap l h : Nat} (hh : h ≤ cap) (hs : ∃ i, Try.prog.info? 22 = some i ∧ i.size = 1) : (Instr.slice 23 (.slice a l cap) none (some (.int .i64 h)) none).run Try.prog w = .ok (.slice a h cap) w := by
  obtain ⟨i, hi, hs⟩ := hs
  simp [Instr.slice, run_underlying Try.underlying23, Instr.sliceBounds, Instr.sliceBound, asIntOf, sizeOf, typeInfo, hi, hh, go_sem]
theorem size117 : ∃ i, Try.prog.info? 22 = some i ∧ i.size = 1 := by
  obtain ⟨i0, hi, hz0, hz1, hz2⟩ := info_parts infoU32
  exact ⟨i0, hi, hz1⟩
theorem ints_cap17 {w : World} {a : Option Addr} {cap l : Nat} {b : List Int} (hv : Ints .u32 w (.slice a l cap) b) : b.length = l ∧ b.length ≤ cap := by
  obtain ⟨a', cap', e, hc, -⟩ := hv
  simp only [Value.slice.injEq] at e
  obtain ⟨rfl, rfl, rfl⟩ := e
  exact ⟨rfl, hc⟩
theorem tail_any17 {w : World} {a : Option Addr} {cap k : Nat} {b : List Int} (hv : Ints .u32 w (.slice a b.length cap) b) (hk : k ≤ b.length) :
    ∃ u c, (∀ w', (Instr.slice 23 (.slice a b.length cap) (some (.int .i64 k)) none none).run Try.prog w' = .ok (.slice u (b.length - k) c) w') ∧ Ints .u32 w (.slice u (b.length - k) c) (b.drop k) :=
  ⟨_, _, fun w' => run_from17 hk size117, by have := cut_ints17 hv hk (Nat.le_refl _); rwa [drop_as17] at this⟩
theorem upto_any17 {w : World} {a : Option Addr} {cap h : Nat} {b : List Int} (hv : Ints .u32 w (.slice a b.length cap) b) (hh : h ≤ b.length) :
    (∀ w', (Instr.slice 23 (.slice a b.length cap) none (some (.int .i64 h)) none).run Try.prog w' = .ok (.slice a h cap) w') ∧ Ints .u32 w (.slice a h cap) (b.take h) :=
  ⟨fun w' => run_upto17 (by have := (ints_cap17 hv).2; omega) size117, hv.take hh⟩
theorem upto17 {w : World} {a : Option Addr} {cap k : Nat} {l : List Nat} (h : Msk w (.slice a l.length cap) l) (hk : k ≤ l.length) :
    (∀ w', (Instr.slice 23 (.slice a l.length cap) none (some (.int .i64 k)) none).run Try.prog w' = .ok (.slice a k cap) w') ∧ Msk w (.slice a k cap) (l.take k) := by
  have h1 := upto_any17 (w := w) (a := a) (cap := cap) (h := k) (b := natsI l) (by rw [natsI_len]; exact h) (by rw [natsI_len]; exact hk)
  rw [natsI_len, ← natsI_take] at h1
  exact h1
theorem tail17 {w : World} {a : Option Addr} {cap k : Nat} {l : List Nat} (h : Msk w (.slice a l.length cap) l) (hk : k ≤ l.length) :
    ∃ u c, (∀ w', (Instr.slice 23 (.slice a l.length cap) (some (.int .i64 k)) none none).run Try.prog w' = .ok (.slice u (l.length - k) c) w') ∧ Msk w (.slice u (l.length - k) c) (l.drop k) := by
  have h1 := tail_any17 (w := w) (a := a) (cap := cap) (k := k) (b := natsI l) (by rw [natsI_len]; exact h) (by rw [natsI_len]; exact hk)
  rw [natsI_len, ← natsI_drop] at h1
  exact h1
theorem UOwn.shape {w : World} {B : Nat} {v : Value} {l : List Nat} (h : UOwn w B v l) : ∃ a n c, v = .slice a n c := by
  obtain ⟨a, c, e⟩ := own_slice h
  exact ⟨a, _, c, e⟩
theorem UOwn.drew {w : World} {B : Nat} {v : Value} {l : List Nat} (h : UOwn w B v l) : UOwn w.drew B v l := h
theorem Msk.drew {w : World} {v : Value} {l : List Nat} (h : Msk w v l) : Msk w.drew v l := Msk.below h (Below.refl _ _).drew
theorem one17 (w : World) (x : Nat) : Msk (w.alloc (.cells #[.int .u32 (x : Int)] 22)) (.slice (some ⟨w.heap.size, 0, none⟩) 1 1) [x] := by
  refine ⟨_, _, rfl, Nat.le_refl _, .inr ⟨w.heap.size, 0, rfl, by simp, fun i hi => ?_⟩⟩
  have h0 : i = 0 := by simp [natsI] at hi; omega
  subst h0
  simp [go_sem, natsI]
theorem none17 (w : World) (N : Nat) : Msk w (.slice (some ⟨N, 0, none⟩) 0 0) [] := ⟨_, _, rfl, Nat.le_refl _, .inl rfl⟩
theorem wpList_app17 (w : World) {ops : Array Oper} {rest : List Oper} {o : Oper} {a : Act} {Q : Exit → Act → World → Prop} (hw : Region.wanted o (yielded ops a.tmps) = true) (s x : Operand)
    (ho : o.op = .call { callee := .builtin .append, args := #[s, x], argTypes := #[23, 23] }) (base : Nat) (v v2 : Value) (l m : List Nat) (hs : a.eval s = v) (hx : a.eval x = v2) (hown : UOwn w base v l) (hv2 : Msk w v2 m) (hl : l.length + m.length ≤ 1000000) (hbase : base ≤ w.heap.size)
    (h : ∀ v' w', UOwn w' base v' (l ++ m) → w.grownBy w' v.ownBlock → wpList Try.prog ops Q rest (a.put o.dst v') w') : wpList Try.prog ops Q (o :: rest) a w :=
  BigFrame.wpList_want hw fun _ hK => by
    obtain ⟨v', w', hrun, r1, r2⟩ := run_app17 w o.type base v v2 l m hown hv2 hl hbase
    unfold Oper.wp
    simp [execOp, ho, resolve, invoke, builtin, hs, hx, hrun, Result.andThen]
    exact hK _ _ (h v' w' r1 r2)
theorem step_app17 (w : World) {ops : Array Oper} {o : Oper} {a : Act} {K : Act → World → Prop} {E : Prop} (hgd : o.guard = none) (s x : Operand)
    (ho : o.op = .call { callee := .builtin .append, args := #[s, x], argTypes := #[23, 23] }) (base : Nat) (v v2 : Value) (l m : List Nat) (hs : a.eval s = v) (hx : a.eval x = v2) (hown : UOwn w base v l) (hv2 : Msk w v2 m) (hl : l.length + m.length ≤ 1000000) (hbase : base ≤ w.heap.size)
    (h : ∀ v' w', UOwn w' base v' (l ++ m) → w.grownBy w' v.ownBlock → K (a.put o.dst v') w') {Q : Exit → Act → World → Prop} :
    if Region.wanted o (yielded ops a.tmps) = true then Oper.wp Try.prog o a w K Q else E := by
  have hw : Region.wanted o (yielded ops a.tmps) = true := by simp [Region.wanted, hgd]
  rw [if_pos hw]
  obtain ⟨v', w', hrun, r1, r2⟩ := run_app17 w o.type base v v2 l m hown hv2 hl hbase
  unfold Oper.wp
  simp [execOp, ho, resolve, invoke, builtin, hs, hx, hrun, Result.andThen]
  exact h v' w' r1 r2
/-- What put hands back. -/
def PutP (w : World) (l : List Nat) (a : Nat) (e : Ending) (w' : World) : Prop := (∃ v, e = .returned v ∧ Msk w' v (putN l a)) ∧ Below w.heap.size w w'
set_option maxHeartbeats 4000000 in
theorem rput17_any (w : World) (v : Value) (l : List Nat) (a : Nat) (h : Msk w v l) (ha : a < 4294967296) (hl : l.length ≤ 1000) :
    Calls Try.prog 31 #[v, .int .u32 a] w (PutP w l a) := by
  have HV := Lib.hid h
  have HH := Lib.hid (rhas17_any w v l a h (by omega))
  obtain ⟨p, cap, rfl⟩ := h.len
  by_cases hq : hasN l a = true
  · have HP := Lib.hid (show putN l a = l from if_pos hq)
    rw [hq] at HH
    clear hq h
    go_enter Try.func31, Try.ntmps31
    go_wp2_with fail
    refine (HH.out).mono ?_; rintro e w1 ⟨rfl, rfl⟩
    go_wp2_with fail
    go_ret
    exact ⟨⟨_, rfl, by rw [HP.out]; exact HV.out⟩, Below.refl _ _⟩
  · have HP := Lib.hid (show putN l a = l.take (atN l a) ++ [a] ++ l.drop (atN l a) from if_neg hq)
    have HA := Lib.hid (fun k hk h1 h2 => @atN_is l a k hk h1 h2)
    rw [eq_false_of_ne_true hq] at HH
    clear hq h
    go_enter Try.func31, Try.ntmps31
    go_wp2_with fail
    refine (HH.out).mono ?_; rintro e w1 ⟨rfl, rfl⟩
    go_wp2_with fail
    go_loopw [5] (fun iv wr => ∃ k : Nat, k ≤ l.length ∧ iv = .int .i64 k ∧ wr = w ∧ Hid (∀ j, j < k → l.getD j 0 < a)) (fun iv _ => l.length - (intOf iv).toNat)
    case atStart => exact ⟨0, Nat.zero_le _, rfl, by trivial, Lib.hid (fun j hj => by omega)⟩
    case round =>
      obtain ⟨k, hk, rfl, rfl, HJ⟩ := hrel
      by_cases hlt : k < l.length
      · have hlt' : (k : Int) < (l.length : Int) := by omega
        obtain ⟨bb, o, rfl, hc⟩ := Msk.at HV.out hlt
        by_cases hx : l.getD k 0 < a
        · have hx' : ((l.getD k 0 : Nat) : Int) < (a : Int) := by omega
          have HJ2 := Lib.hid (fun j (hj : j < k + 1) => if e : j = k then e ▸ hx else HJ.out j (by omega))
          clear hx
          generalize l.getD k 0 = x at *
          go_wp2_with fail
          go_roundw
          case rel => exact ⟨k + 1, by omega, by go_num, by trivial, HJ2⟩
          case measure => simp [intOf]; omega
        · have hx' : ¬ ((l.getD k 0 : Nat) : Int) < (a : Int) := by omega
          have HE := Lib.hid (HA.out k hk HJ.out (fun _ => hx))
          clear HA HJ hx
          generalize l.getD k 0 = x at *
          have HUp := upto17 HV.out hk
          obtain ⟨hup, hmu⟩ := HUp
          obtain ⟨u, uc, htl, hmt⟩ := tail17 HV.out hk
          have HMU := Lib.hid hmu
          have HMT := Lib.hid hmt
          have hlt3 : (l.take k).length = k := List.length_take_of_le hk
          have HLT := Lib.hid hlt3
          have hld3 : (l.drop k).length = l.length - k := List.length_drop
          have HLD := Lib.hid hld3
          clear hmu hmt hlt3 hld3 HH
          go_upto_region 7 with (refine wpList_app17 _ (by rfl) _ _ (by rfl) wr.heap.size _ _ [] (l.take k) (by rfl) (by rfl) (World.ownsRow_lit wr #[] 0 (Nat.le_refl _) (by decide) rfl) (HMU.out.below (below_one wr _)) (by rw [HLT.out]; simp; omega) (by simp) ?_; intro v6 w6 hown6 hg6; rw [List.nil_append] at hown6; have HO6 := Lib.hid hown6; have HB6 := Lib.hid (lit_more17 hg6); obtain ⟨p6, n6, c6, rfl⟩ := UOwn.shape hown6; clear hown6 hg6)
          go_region_law (first
            | (refine step_app17 _ (by rfl) _ _ (by rfl) wr.heap.size _ _ (l.take k ++ [a]) (l.drop k) (by rfl) (by rfl) HO7.out (HMT.out.below HB7.out) (by rw [List.length_append, HLT.out, HLD.out]; simp; omega) HB7.out.size ?_; intro v8 w8 hown8 hg8; have HO8 := Lib.hid hown8; have HB8 := Lib.hid (HB7.out.grown hg8 HB7.out.size (fun j hj => (HO7.out.lt j hj).1)); obtain ⟨p8, n8, c8, rfl⟩ := UOwn.shape hown8; clear hown8 hg8)
            | (refine step_app17 _ (by rfl) _ _ (by rfl) wr.heap.size _ _ (l.take k) [a] (by rfl) (by rfl) (UOwn.drew (HO6.out.alloc _)) (Msk.drew (one17 w6 a)) (by rw [HLT.out]; simp; omega) (by have := HB6.out.size; simp; omega) ?_; intro v7 w7 hown7 hg7; have HO7 := Lib.hid hown7; have HB7 := Lib.hid ((HB6.out.alloc HB6.out.size (.cells #[.int .u32 (a : Int)] 22)).drew.grown hg7 (by have := HB6.out.size; simp; omega) (fun j hj => (HO6.out.lt j hj).1)); obtain ⟨p7, n7, c7, rfl⟩ := UOwn.shape hown7; clear hown7 hg7))
          go_wp2_with fail
          go_ret
          exact ⟨⟨_, rfl, by rw [HP.out, HE.out]; exact UOwn.msk HO8.out⟩, HB8.out⟩
      · have hlt' : ¬ (k : Int) < (l.length : Int) := by omega
        have HE := Lib.hid (HA.out k hk HJ.out (fun h => absurd h hlt))
        have HUp := upto17 HV.out hk
        obtain ⟨hup, hmu⟩ := HUp
        obtain ⟨u, uc, htl, hmt⟩ := tail17 HV.out hk
        have HMU := Lib.hid hmu
        have HMT := Lib.hid hmt
        have hlt3 : (l.take k).length = k := List.length_take_of_le hk
        have HLT := Lib.hid hlt3
        have hld3 : (l.drop k).length = l.length - k := List.length_drop
        have HLD := Lib.hid hld3
        clear hmu hmt hlt3 hld3 HA HJ HH
        go_upto_region 7 with (refine wpList_app17 _ (by rfl) _ _ (by rfl) wr.heap.size _ _ [] (l.take k) (by rfl) (by rfl) (World.ownsRow_lit wr #[] 0 (Nat.le_refl _) (by decide) rfl) (HMU.out.below (below_one wr _)) (by rw [HLT.out]; simp; omega) (by simp) ?_; intro v6 w6 hown6 hg6; rw [List.nil_append] at hown6; have HO6 := Lib.hid hown6; have HB6 := Lib.hid (lit_more17 hg6); obtain ⟨p6, n6, c6, rfl⟩ := UOwn.shape hown6; clear hown6 hg6)
        go_region_law (first
          | (refine step_app17 _ (by rfl) _ _ (by rfl) wr.heap.size _ _ (l.take k ++ [a]) (l.drop k) (by rfl) (by rfl) HO7.out (HMT.out.below HB7.out) (by rw [List.length_append, HLT.out, HLD.out]; simp; omega) HB7.out.size ?_; intro v8 w8 hown8 hg8; have HO8 := Lib.hid hown8; have HB8 := Lib.hid (HB7.out.grown hg8 HB7.out.size (fun j hj => (HO7.out.lt j hj).1)); obtain ⟨p8, n8, c8, rfl⟩ := UOwn.shape hown8; clear hown8 hg8)
          | (refine step_app17 _ (by rfl) _ _ (by rfl) wr.heap.size _ _ (l.take k) [a] (by rfl) (by rfl) (UOwn.drew (HO6.out.alloc _)) (Msk.drew (one17 w6 a)) (by rw [HLT.out]; simp; omega) (by have := HB6.out.size; simp; omega) ?_; intro v7 w7 hown7 hg7; have HO7 := Lib.hid hown7; have HB7 := Lib.hid ((HB6.out.alloc HB6.out.size (.cells #[.int .u32 (a : Int)] 22)).drew.grown hg7 (by have := HB6.out.size; simp; omega) (fun j hj => (HO6.out.lt j hj).1)); obtain ⟨p7, n7, c7, rfl⟩ := UOwn.shape hown7; clear hown7 hg7))
        go_wp2_with fail
        go_ret
        exact ⟨⟨_, rfl, by rw [HP.out, HE.out]; exact UOwn.msk HO8.out⟩, HB8.out⟩
theorem UOwn.below {w w' : World} {B : Nat} {v : Value} {l : List Nat} (h : UOwn w B v l) (hb : Below w.heap.size w w') : UOwn w' B v l := by
  obtain ⟨h1, h⟩ := h
  rcases h with ⟨rfl, he⟩ | ⟨g, cap, cur, rfl, hbase, hg, r⟩
  · exact ⟨h1, .inl ⟨rfl, he⟩⟩
  · exact ⟨h1, .inr ⟨g, cap, cur, rfl, hbase, (hb.block g (Array.getElem?_eq_some_iff.1 hg).1).trans hg, r⟩⟩
set_option maxHeartbeats 4000000 in
theorem rorder17_any (w : World) (v : Value) (l : List Nat) (h : Msk w v l) (hb : Bd l) (hl : l.length ≤ 100) :
    Calls Try.prog 16 #[v] w fun e w' => (∃ u, e = .returned u ∧ Msk w' u (ordN l 33)) ∧ Below w.heap.size w w' := by
  have HV := Lib.hid h
  obtain ⟨p, cap, rfl⟩ := h.len
  have HC := Lib.hid (fun w1 k => rcount_any w1 (l.getD k 0) (hb.getD k))
  have HP := Lib.hid (fun w1 v1 m k (hm : Msk w1 v1 m) (hml : m.length ≤ 1000) => rput17_any w1 v1 m (l.getD k 0) hm (hb.getD k) hml)
  have HT := Lib.hid (fun k (hk : k < l.length) => @take_next l k hk)
  have HSn := Lib.hid (fun n k => same_snoc (l.take k) n (l.getD k 0))
  have HSl := Lib.hid (fun n k => Nat.le_trans (same_len (l.take k) n) (List.length_take_le ..))
  have HOl := Lib.hid (fun k => ord_len l k)
  have HOs := Lib.hid (fun k => show ordN l (k + 1) = ordN l k ++ sameN l (32 - k) from rfl)
  have HO0 := Lib.hid (show ordN l 0 = [] from rfl)
  have HS0 := Lib.hid (fun n => show sameN (l.take 0) n = [] by rw [List.take_zero]; rfl)
  have HTl := Lib.hid (show l.take l.length = l from List.take_length)
  generalize hO : ordN l = O at *
  generalize hSm : (fun k n => sameN (l.take k) n) = Sm
  have HSm : Hid (∀ k n, sameN (l.take k) n = Sm k n) := Lib.hid (fun k n => by rw [← hSm])
  clear h hb hO hSm
  go_enter Try.func16, Try.ntmps16
  go_wp2_with fail
  go_loopw [4, 3] (fun nv ov wr => ∃ (t : Nat) (pa : Option Addr) (pn pc : Nat), t ≤ 33 ∧ nv = .int .i64 (32 - (t : Int)) ∧ ov = .slice pa pn pc ∧ Hid (UOwn wr w.heap.size ov (O t)) ∧ Hid (Below w.heap.size w wr)) (fun nv _ _ => (intOf nv + 1).toNat)
  case atStart => exact ⟨0, _, _, _, by omega, rfl, rfl, Lib.hid (by rw [HO0.out]; exact UOwn.nil w _), Lib.hid (Below.refl _ _)⟩
  case round =>
    obtain ⟨t, oa, on, oc, ht, rfl, rfl, HO, HW⟩ := hrel
    by_cases hlt : t < 33
    · have hlt' : (0 : Int) ≤ 32 - (t : Int) := by omega
      have hOl : (O t).length ≤ 3300 := Nat.le_trans (HOl.out t) (Nat.mul_le_mul (show t ≤ 33 by omega) hl)
      go_wp2_with fail
      generalize decide ((t : Int) ≤ 32) = b8 at *
      generalize wr = R0 at *
      go_loopw [6, 5] (fun iv sv wr => ∃ (k : Nat) (pa : Option Addr) (pn pc : Nat), k ≤ l.length ∧ iv = .int .i64 k ∧ sv = .slice pa pn pc ∧ Hid (Msk wr sv (Sm k (32 - t))) ∧ Hid (Below R0.heap.size R0 wr)) (fun iv _ _ => l.length - (intOf iv).toNat)
      case atStart => exact ⟨0, _, _, _, Nat.zero_le _, rfl, rfl, Lib.hid (by rw [← HSm.out, HS0.out]; exact ⟨_, _, rfl, Nat.le_refl _, .inl rfl⟩), Lib.hid (Below.refl _ _)⟩
      case round =>
        obtain ⟨k, sa, sn, sc, hk, rfl, rfl, HS, HW2⟩ := hrel
        by_cases hlk : k < l.length
        · have hlk' : (k : Int) < (l.length : Int) := by omega
          obtain ⟨bb, o, rfl, hc⟩ := Msk.at (HV.out.below (below_then HW.out HW2.out)) hlk
          have HCk := Lib.hid (HC.out wr k)
          have HSk := Lib.hid (HSn.out (32 - t) k)
          have HTk := Lib.hid (HT.out k hlk)
          have hsl := HSl.out (32 - t) k
          rw [HSm.out] at hsl
          have HPk := Lib.hid (HP.out wr _ _ k HS.out (by omega))
          by_cases hq : cntN 32 (l.getD k 0) = 32 - t
          · have HS2 := Lib.hid (show Sm (k + 1) (32 - t) = putN (Sm k (32 - t)) (l.getD k 0) by rw [← HSm.out, ← HSm.out, HTk.out, HSk.out, if_pos hq])
            have hq' : (((cntN 32 (l.getD k 0) : Nat) : Int) == 32 - (t : Int)) = true := by rw [hq, beq_iff_eq]; omega
            clear hq HSk HTk
            generalize cntN 32 (l.getD k 0) = cc at *
            generalize l.getD k 0 = x at *
            go_wp2_with fail
            refine (HCk.out).mono ?_; rintro e w1 ⟨rfl, rfl⟩
            go_wp2_with fail
            refine (HPk.out).mono ?_; rintro e w2 ⟨⟨u, rfl, hu⟩, hb2⟩
            rw [← HS2.out] at hu
            have HU := Lib.hid hu
            have HW3 := Lib.hid (below_then HW2.out hb2)
            obtain ⟨ua, uc, rfl⟩ := hu.len
            clear hu hb2 HPk HCk HS
            go_wp2_with fail
            go_roundw
            case rel => exact ⟨k + 1, _, _, _, by omega, by go_num, rfl, HU, HW3⟩
            case measure => simp [intOf]; omega
          · have HS2 := Lib.hid (show Sm (k + 1) (32 - t) = Sm k (32 - t) by rw [← HSm.out, ← HSm.out, HTk.out, HSk.out, if_neg hq])
            have hq' : (((cntN 32 (l.getD k 0) : Nat) : Int) == 32 - (t : Int)) = false := by rw [beq_eq_false_iff_ne]; omega
            have HU := Lib.hid (show Msk wr (.slice sa sn sc) (Sm (k + 1) (32 - t)) by rw [HS2.out]; exact HS.out)
            clear hq HSk HTk HS2 HS HPk
            generalize cntN 32 (l.getD k 0) = cc at *
            generalize l.getD k 0 = x at *
            go_wp2_with fail
            refine (HCk.out).mono ?_; rintro e w1 ⟨rfl, rfl⟩
            go_wp2_with fail
            go_roundw
            case rel => exact ⟨k + 1, _, _, _, by omega, by go_num, rfl, HU, HW2⟩
            case measure => simp [intOf]; omega
        · have hkl : k = l.length := by omega
          subst hkl
          have hlk' : ¬ (l.length : Int) < (l.length : Int) := by omega
          have HU := Lib.hid (show Msk wr (.slice sa sn sc) (sameN l (32 - t)) by
            have h1 := HS.out
            rw [← HSm.out, HTl.out] at h1
            exact h1)
          have hsl := HSl.out (32 - t) l.length
          rw [HTl.out] at hsl
          have HX := Lib.hid (HOs.out t)
          have HOw := Lib.hid (UOwn.below HO.out HW2.out)
          have HW3 := Lib.hid (below_then HW.out HW2.out)
          clear HS HO
          go_wp2_with (refine wpList_app17 _ (by rfl) _ _ (by rfl) w.heap.size _ _ (O t) (sameN l (32 - t)) (by rfl) (by rfl) HOw.out HU.out (by omega) HW3.out.size ?_; intro v6 w6 hown6 hg6; rw [← HX.out] at hown6; have HO6 := Lib.hid hown6; have HB6 := Lib.hid (HW3.out.grown hg6 HW3.out.size (fun j hj => (HOw.out.lt j hj).1)); obtain ⟨p6, n6, c6, rfl⟩ := UOwn.shape hown6; clear hown6 hg6)
          go_roundw
          case rel => exact ⟨t + 1, _, _, _, by omega, by go_num, rfl, HO6, HB6⟩
          case measure => simp [intOf]; omega
    · have htt : t = 33 := by omega
      subst htt
      have hlt' : ¬ (0 : Int) ≤ 32 - ((33 : Nat) : Int) := by decide
      go_wp2_with fail
      go_ret
      exact ⟨⟨_, rfl, UOwn.msk HO.out⟩, HW.out⟩
end Go.Proofs.Ytdopgpijbilffaa
