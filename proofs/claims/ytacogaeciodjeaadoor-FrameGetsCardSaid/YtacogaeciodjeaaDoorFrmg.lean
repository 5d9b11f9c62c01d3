/- All frames: what the loops hold; lists of bytes of the call's own; the reference's All. -/
import Derived.Test.YtacogaeciodjeaaDoorFrmf
namespace Go.Proofs.YtacogaeciodjeaaDoor
set_option maxRecDepth 100000
open Go.RowKit
set_option linter.unusedVariables false
def allN (b : List Int) : List (List Int) × Nat × Nat := allF b.length b
/-- So many bytes are read, and these bodies have come. -/
def AllSt (b : List Int) (P : List (List Int)) (A : Nat) : Prop :=
  A ≤ b.length ∧ P.length ≤ A ∧ ∃ f, b.length - A ≤ f ∧ allN b = (P ++ (allF f (b.drop A)).1, A + (allF f (b.drop A)).2.1, (allF f (b.drop A)).2.2)
theorem AllSt.start (b : List Int) : AllSt b [] 0 := ⟨Nat.zero_le _, Nat.le_refl _, b.length, by omega, by simp [allN]⟩
theorem AllSt.stop {b : List Int} {P : List (List Int)} {A : Nat} (h : AllSt b P A) (hA : ¬ A < b.length) : allN b = (P, A, 0) := by
  obtain ⟨h1, _, f, _, h2⟩ := h
  rw [h2, show b.drop A = [] from List.drop_eq_nil_of_le (by omega), allF_nil]
  simp
theorem allF_succ {b : List Int} {f : Nat} (hb : b ≠ []) : allF (f + 1) b = if (getN b).2.2 = 0 then ((getN b).1 :: (allF f (b.drop (getN b).2.1)).1, (getN b).2.1 + (allF f (b.drop (getN b).2.1)).2.1, (allF f (b.drop (getN b).2.1)).2.2) else ([], 0, (getN b).2.2) := by
  rw [allF, if_neg hb]
theorem AllSt.err {b : List Int} {P : List (List Int)} {A : Nat} (h : AllSt b P A) (hA : A < b.length) (he : (getN (b.drop A)).2.2 ≠ 0) : allN b = (P, A, (getN (b.drop A)).2.2) := by
  obtain ⟨h1, _, f, hf, h2⟩ := h
  have hn : b.drop A ≠ [] := fun h => by have := congrArg List.length h; simp at this; omega
  obtain ⟨g, rfl⟩ : ∃ g, f = g + 1 := ⟨f - 1, by omega⟩
  rw [h2, allF_succ hn, if_neg he]
  simp
theorem AllSt.next {b : List Int} {P : List (List Int)} {A : Nat} (h : AllSt b P A) (hb : Byt b) (hA : A < b.length) (he : (getN (b.drop A)).2.2 = 0) : AllSt b (P ++ [(getN (b.drop A)).1]) (A + (getN (b.drop A)).2.1) := by
  obtain ⟨h1, hP, f, hf, h2⟩ := h
  have hn : b.drop A ≠ [] := fun h => by have := congrArg List.length h; simp at this; omega
  have hg := (getN_fit (byt_drop hb A)).1 he
  rw [List.length_drop] at hg
  obtain ⟨g, rfl⟩ : ∃ g, f = g + 1 := ⟨f - 1, by omega⟩
  refine ⟨by omega, by rw [List.length_append]; simp; omega, g, by omega, ?_⟩
  rw [h2, allF_succ hn, if_pos he, List.drop_drop]
  simp [Nat.add_assoc]
/-- Lists of bytes, all of the call's own. -/
def Bods (w : World) (B : Nat) (v : Value) (L : List (List Int)) : Prop :=
  ∃ vs : List Value, vs.length = L.length ∧ w.ownsRow B 22 1 v L.length vs ∧ ∀ j u, vs[j]? = some u → BOwn w B u (L.getD j [])
theorem Bods.nil (w : World) (B : Nat) : Bods w B (.slice none 0 0) [] := ⟨[], rfl, ⟨by simp, .inl ⟨rfl, rfl⟩⟩, fun j u h => by simp at h⟩
theorem Bods.below {w w' : World} {B : Nat} {v : Value} {L : List (List Int)} (h : Bods w B v L) (hb : Below w.heap.size w w') : Bods w' B v L := by
  obtain ⟨vs, h1, h2, h3⟩ := h
  exact ⟨vs, h1, own_below h2 hb, fun j u hj => own_below (h3 j u hj) hb⟩
theorem Bods.mono {w : World} {B B' : Nat} {v : Value} {L : List (List Int)} (h : Bods w B v L) (hb : B' ≤ B) : Bods w B' v L := by
  obtain ⟨vs, h1, h2, h3⟩ := h
  exact ⟨vs, h1, own_mono h2 hb, fun j u hj => own_mono (h3 j u hj) hb⟩
theorem Bods.slice {w : World} {B : Nat} {v : Value} {L : List (List Int)} (h : Bods w B v L) : ∃ a c, v = .slice a L.length c := by
  obtain ⟨vs, h1, h2, h3⟩ := h
  exact own_slice h2
/-- Blocks of other elements stay. -/
theorem own_typed {w : World} {B E n g : Nat} {v : Value} {xs : List Value} (h : w.ownsRow B E 1 v n xs) (hg : v.ownBlock = some g) : ∃ cs fr, w.heap[g]? = some (.cells cs E fr) := by
  rcases h.2 with ⟨rfl, _⟩ | ⟨g', cap, cur, rfl, h2, h3, h4⟩
  · simp [Value.ownBlock] at hg
  · simp [Value.ownBlock] at hg; subst hg; exact ⟨_, _, h3⟩
theorem own_other {w w' : World} {B B' E E' n n' : Nat} {v v' : Value} {xs xs' : List Value} (h : w.ownsRow B E 1 v n xs) (h' : w.ownsRow B' E' 1 v' n' xs') (hE : E ≠ E') (hg : w.grownBy w' v'.ownBlock) : w'.ownsRow B E 1 v n xs := by
  refine h.kept hg ?_
  cases hv : v.ownBlock with
  | none => exact .inl rfl
  | some g =>
    right
    intro he
    obtain ⟨cs, fr, e1⟩ := own_typed h hv
    obtain ⟨cs', fr', e2⟩ := own_typed h' he.symm
    rw [e1] at e2
    have := Option.some.inj e2
    injection this with _ e3 _
    exact hE e3
theorem Tryd.infoSl : (Tryd.prog.info? 22).map (fun i => (i.zero, i.size, i.bytes)) = some (some (.slice none 0 0), 1, 24) := by kernel_rfl
theorem Bods.snoc {w w1 : World} {B : Nat} {v v1 u : Value} {L : List (List Int)} {l : List Int} (vs : List Value) (hl : vs.length = L.length) (h2 : w.ownsRow B 22 1 v L.length vs) (h3 : ∀ j u, vs[j]? = some u → BOwn w B u (L.getD j [])) (hu : BOwn w B u l)
    (hown : w1.ownsRow B 22 1 v1 (L.length + 1) (vs ++ [u])) (hg : w.grownBy w1 v.ownBlock) : Bods w1 B v1 (L ++ [l]) := by
  refine ⟨vs ++ [u], by simp [hl], by simpa using hown, fun j x hj => ?_⟩
  by_cases h : j < L.length
  · rw [List.getElem?_append_left (by omega)] at hj
    have e : (L ++ [l]).getD j [] = L.getD j [] := by simp only [List.getD]; rw [List.getElem?_append_left h]
    rw [e]
    exact own_other (h3 j x hj) h2 (by decide) hg
  · have hj2 : j < vs.length + 1 := by have := (List.getElem?_eq_some_iff.1 hj).1; simpa using this
    obtain rfl : j = L.length := by omega
    rw [List.getElem?_append_right (by omega), hl, Nat.sub_self] at hj
    obtain rfl : u = x := by simpa using hj
    have e : (L ++ [l]).getD L.length [] = l := by simp [List.getD]
    rw [e]
    exact own_other hu h2 (by decide) hg
section
variable {P : Program} (w : World)
/-- An append of one value that was just made. -/
theorem wpList_append_one {ops : Array Oper} {rest : List Oper} {o : Oper} {a : Act} {Q : Exit → Act → World → Prop} (hw : Region.wanted o (yielded ops a.tmps) = true) (s x : Operand) (t : TypeId)
    (ho : o.op = .call { callee := .builtin .append, args := #[s, x], argTypes := #[t, t] })
    (base : Nat) (e : TypeId) (i : TypeInfo) (z : Value) (bytes : Nat) (ht : P.underlying t = some (.slice e)) (hi : P.info? e = some i) (hz : i.zero = some z) (hsize : i.size = 1) (hby : i.bytes = bytes) (hzs : z.cells.size = 1)
    (v : Value) (n : Nat) (xs : List Value) (u : Value) (ad : Addr) (hs : a.eval s = v) (hx : a.eval x = .slice (some ad) 1 1) (hown : w.ownsRow base e 1 v n xs) (hc : w.cell? ad = some u) (h1 : u.oneCell' = true) (h63 : n + 1 ≤ maxLen) (hbytes : (n + 1) * bytes ≤ 140737488355328) (hbase : base ≤ w.heap.size)
    (h : ∀ v' w', w'.ownsRow base e 1 v' (n + 1) (xs ++ [u]) → w.grownBy w' v.ownBlock → wpList P ops Q rest (a.put o.dst v') w') : wpList P ops Q (o :: rest) a w :=
  BigFrame.wpList_want hw fun _ hK => by
    obtain ⟨v', w', hrun, r1, r2, _⟩ := run_append_own (P := P) w base t o.type e i z 1 bytes ht hi hz hsize hby hzs (by omega) v n xs hown ad 1 1 [u] (by simp) (fun j y hj => by
      have : j = 0 := by have := (List.getElem?_eq_some_iff.1 hj).1; simpa using this
      subst this
      simp only [List.getElem?_cons_zero, Option.some.injEq] at hj
      subst hj
      simpa [Addr.add] using hc) (fun y hy => by rw [List.mem_singleton] at hy; rw [hy]; exact h1) h63 hbytes hbase
    unfold Oper.wp
    simp [execOp, ho, resolve, invoke, builtin, hs, hx, hrun, Result.andThen]
    exact hK _ _ (h v' w' r1 r2)
end
theorem ownsRow_alloc2 {w : World} {B E n : Nat} {v : Value} {xs : List Value} (h : w.ownsRow B E 1 v n xs) (o : Obj) : (w.alloc o).ownsRow B E 1 v n xs := own_below h (below_one w o)
theorem cell_fresh (w : World) (u : Value) (E : TypeId) : (w.alloc (.cells #[u] E)).cell? ⟨w.heap.size, 0, none⟩ = some u := by
  have := heap_alloc_new w (.cells #[u] E)
  unfold World.cell?; simp only; rw [this]; rfl
def AllP (w : World) (R : List (List Int) × Nat × Nat) (e : Ending) (w' : World) : Prop := (∃ v, e = .returned (.tuple #[v, .int .i64 (R.2.1 : Nat), .int .i64 (R.2.2 : Nat)]) ∧ Bods w' w.heap.size v R.1) ∧ Below w.heap.size w w'
theorem ints_drop {w w' : World} {a : Option Addr} {cap A : Nat} {b : List Int} (hv : Ints .u8 w (.slice a b.length cap) b) (hA : A ≤ b.length) (hb : Below w.heap.size w w') :
    ∃ u c, (∀ w', (Instr.slice 22 (.slice a b.length cap) (some (.int .i64 A)) none none).run Tryd.prog w' = .ok (.slice u (b.length - A) c) w') ∧ Ints .u8 w' (.slice u (b.length - A) c) (b.drop A) := by
  obtain ⟨u, c, h1, h2⟩ := tail_any hv hA
  exact ⟨u, c, h1, h2.below hb⟩
set_option maxHeartbeats 4000000 in
theorem rall_any (v : Value) (b : List Int) (w : World) (hv : Ints .u8 w v b) (hb : Byt b) (hl : b.length ≤ 3000) :
    Calls Tryd.prog 13 #[v] w (AllP w (allN b)) := by
  obtain ⟨i0, hi, hz0, hz1, hz2⟩ := info_parts Tryd.infoSl
  have HV := Lib.hid hv
  have HB := Lib.hid hb
  obtain ⟨a, cap, rfl, -, -⟩ := hv
  clear hb
  go_enter Tryd.func13, Tryd.ntmps13
  go_wp2_with fail
  go_loopw [5, 6] (fun o at' wr => ∃ (P : List (List Int)) (A : Nat), at' = .int .i64 A ∧ Hid (AllSt b P A ∧ Bods wr w.heap.size o P ∧ Below w.heap.size w wr)) (fun _ at' _ => b.length - (intOf at').toNat)
  case atStart => exact ⟨[], 0, rfl, Lib.hid ⟨AllSt.start b, Bods.nil _ _, Below.refl _ _⟩⟩
  case round =>
    obtain ⟨P, A, rfl, hS⟩ := hrel
    obtain ⟨pa, pc, rfl⟩ := hS.out.2.1.slice
    have hA := hS.out.1.1
    have hPA := hS.out.1.2.1
    by_cases hlt : A < b.length
    · have i1 : (A : Int) < (b.length : Int) := by omega
      obtain ⟨u, c, hop, hi3⟩ := ints_drop HV.out hA hS.out.2.2
      have HG := Lib.hid (rget_any _ (b.drop A) wr hi3 (byt_drop HB.out A) (by simp; omega))
      have hfit := (getN_fit (byt_drop HB.out A)).1
      have HE := Lib.hid (fun h => hS.out.1.err hlt h)
      have HN := Lib.hid (fun h => hS.out.1.next HB.out hlt h)
      unfold GetP at HG
      rw [List.length_drop] at hfit
      generalize getN (b.drop A) = R at *
      obtain ⟨l, n, e⟩ := R
      simp only at HG hfit HE HN
      have HFit := Lib.hid hfit
      clear hi3 hfit
      go_wp2_with fail
      refine (HG.out).mono ?_; rintro r w1 ⟨⟨v1, rfl, ho⟩, hb1⟩
      have HO := Lib.hid (And.intro (own_mono ho hS.out.2.2.size) (below_then hS.out.2.2 hb1))
      obtain ⟨vs, hq1, hq2, hq3⟩ := hS.out.2.1.below hb1
      have HQ := Lib.hid (And.intro hq1 (And.intro hq2 hq3))
      obtain ⟨pv, lv, cv, rfl⟩ := own_slice3 ho
      clear ho hb1 hq1 hq2 hq3 HG hop
      by_cases he : e = 0
      · subst he
        have hf := HFit.out rfl
        have hn1 : n ≤ b.length - A := hf.1
        have hn2 : 8 ≤ n := by omega
        clear hf HFit
        have hsz := HO.out.2.size
        have HA := Lib.hid (And.intro (ownsRow_alloc2 HQ.out.2.1 (.cells #[.slice pv lv cv] 22)) (heap_alloc_new w1 (.cells #[.slice pv lv cv] 22)))
        go_wp2_with (at_builtin; refine wpList_append_one _ (by rfl) _ _ 34 rfl w.heap.size 22 i0 (.slice none 0 0) 24 Tryd.underlying34 hi hz0 hz1 hz2 rfl _ P.length vs (.slice pv lv cv) ⟨w1.heap.size, 0, none⟩ rfl rfl HA.out.1 (cell_fresh _ _ _) rfl (by unfold maxLen; omega) (by omega) (by simp; omega) ?_; intro v2 w2 hown hgrow)
        have hw : w.heap.size ≤ w1.heap.size := hsz
        have hlitB := HO.out.2.alloc hsz (.cells #[.slice pv lv cv] 22)
        have HZ := Lib.hid (show Bods w2 w.heap.size v2 (P ++ [l]) ∧ Below w.heap.size w w2 from
          ⟨Bods.snoc vs HQ.out.1 HA.out.1 (fun j u hj => ownsRow_alloc2 (HQ.out.2.2 j u hj) _) (ownsRow_alloc2 HO.out.1 _) hown hgrow, hlitB.grown hgrow (by simp; omega) (fun k hk => (HA.out.1.lt k hk).1)⟩)
        clear hown hgrow hlitB
        go_wp2_with fail
        go_roundw
        case rel => exact ⟨P ++ [l], A + n, by go_num, Lib.hid ⟨HN.out (by trivial), HZ.out.1, HZ.out.2⟩⟩
        case measure => simp [intOf]; omega
      · have he' : ((e : Int) != 0) = true := by simp; omega
        have HA := Lib.hid (show Bods w1 w.heap.size (.slice pa P.length pc) P from ⟨vs, HQ.out.1, HQ.out.2.1, HQ.out.2.2⟩)
        go_wp2_with fail
        go_ret3
        rw [HE.out he]
        exact ⟨⟨_, rfl, HA.out⟩, HO.out.2⟩
    · obtain rfl : A = b.length := by omega
      have HE := Lib.hid (hS.out.1.stop hlt)
      go_wp2_with fail
      go_ret3
      rw [HE.out]
      exact ⟨⟨_, rfl, hS.out.2.1⟩, hS.out.2.2⟩
end Go.Proofs.YtacogaeciodjeaaDoor
