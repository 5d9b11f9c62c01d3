/- Layer 17: sets of sets as maps: their keys, collected and sorted. -/
import Derived.Test.YtdopgpijbilffaaLatf
import Derived.RangeFuncNested
import Derived.RangeFuncBound
import Derived.RangeFuncCalls
import Derived.RangeFuncLeaves
import Derived.RangeFuncBox
import Derived.RangeFuncWrites
import Derived.Shelf.Abstract
import Derived.Shelf.RegionOpen
import Derived.Maps.AppendAt
import Derived.Maps.OwnIn
import Derived.Maps.OwnSet
import Derived.Sort.MapsRangeIn
import Derived.WalkKit
import Derived.OwnWalkIn
import Derived.TacticsInMore
import Derived.LoopNIn
import Derived.LoopIn
namespace Go.Proofs.Ytdopgpijbilffaa
set_option maxRecDepth 100000
open Go.RowKit Go.Maps Go.Sort Go.Shelf
set_option linter.unusedVariables false
/-- A block is a map of at most n sets that reads as D. -/
abbrev SetM (w : World) (b n : Nat) (D : DataW Unit) : Prop := w.ownsMap Try.prog 22 (unitElem (H := Unit)) b n D
attribute [local go_sem] Oper.semAt_some
def keyN (x : Nat) : Lit := .int .u32 (x : Int)
theorem lawU : Go.Maps.Keyed Try.prog 22 := int_keyed Try.underlying22
theorem zeroUnit (w : World) : (zeroValue 46).run Try.prog w = .ok (.agg #[]) w := by kernel_rfl
theorem wf_u32 {a : Int} (h : (Lit.int .u32 a).wf = true) : 0 ≤ a ∧ a ≤ 4294967295 := by
  simp [Lit.wf, IntKind.min, IntKind.max, IntKind.signed, IntKind.bits] at h
  omega
theorem wf_of32 {x : Nat} (h : x < 4294967296) : (Lit.int .u32 (x : Int)).wf = true := by
  simp [Lit.wf, IntKind.min, IntKind.max, IntKind.signed, IntKind.bits]
  omega
theorem key_u32 {key : Value} {kl : Lit} (h : keyOf Try.prog 22 key = some kl) : ∃ x : U32, key = encU x ∧ kl = keyN x.1 := by
  have hk := Try.underlying22
  cases key <;> simp [keyOf, hk, mapKey] at h
  rename_i q a
  obtain ⟨⟨rfl, hw⟩, rfl⟩ := h
  have := wf_u32 hw
  refine ⟨⟨a.toNat, by omega⟩, ?_, ?_⟩
  · show Value.int .u32 a = .int .u32 ((a.toNat : Nat) : Int)
    rw [Int.toNat_of_nonneg this.1]
  · show Lit.int .u32 a = .int .u32 ((a.toNat : Nat) : Int)
    rw [Int.toNat_of_nonneg this.1]
theorem key17 {x : Nat} (h : x < 4294967296) : keyOf Try.prog 22 (.int .u32 (x : Int)) = some (keyN x) := keyOf_int_mk Try.underlying22 (wf_of32 h)
theorem encU_inj {x y : U32} (h : encU x = encU y) : x = y := by
  apply Subtype.ext
  have : ((x.1 : Nat) : Int) = ((y.1 : Nat) : Int) := by simpa [encU] using h
  omega
theorem keyN_same (x y : Nat) : (keyN x).sameKey (keyN y) = decide (x = y) := by
  unfold keyN
  by_cases h : x = y
  · subst h; simp [Lit.sameKey]
  · rw [decide_eq_false h]
    simp [Lit.sameKey]
    omega
/-- What has come of a map so far: no key twice, each a key that is no longer to come. -/
def CollU (D0 : DataW Unit) (left : Lit → Bool) (ss : List U32) : Prop := ss.Nodup ∧ ∀ x : U32, x ∈ ss ↔ (Maps.has D0 (keyN x.1) = true ∧ left (keyN x.1) = false)
theorem CollU.start (D0 : DataW Unit) : CollU D0 (Maps.has D0) [] := ⟨List.nodup_nil, fun x => by cases Maps.has D0 (keyN x.1) <;> simp⟩
theorem CollU.step {D0 : DataW Unit} {left : Lit → Bool} {ss : List U32} (h : CollU D0 left ss) {x : U32} {y : DataW Unit} (hlk : left (keyN x.1) = true) (hat : ∀ zd, D0.atKey (keyN x.1) zd = y) : CollU D0 (fun z => left z && !z.sameKey (keyN x.1)) (ss ++ [x]) := by
  have hhas : Maps.has D0 (keyN x.1) = true := Maps.has_true_of_atKey hat
  have hnew : x ∉ ss := fun hx => by have := ((h.2 x).1 hx).2; rw [hlk] at this; cases this
  refine ⟨List.nodup_append.2 ⟨h.1, by simp, fun a ha b hb => by simp at hb; subst hb; exact fun e => hnew (e ▸ ha)⟩, fun y => ?_⟩
  show _ ↔ Maps.has D0 (keyN y.1) = true ∧ (left (keyN y.1) && !(keyN y.1).sameKey (keyN x.1)) = false
  rw [List.mem_append, List.mem_singleton, h.2 y, keyN_same]
  by_cases hy : y = x
  · subst hy; simp [hhas]
  · have : ¬ y.1 = x.1 := fun e => hy (Subtype.ext e)
    simp [hy, this]
set_option maxHeartbeats 2000000 in
theorem keys1_17 (F : Fence) (n : Nat) (h10 : F.fn 47) (hro : F.round = none) (hn : 1 ≤ n) (l Bm b nn : Nat) (D0 : DataW Unit) (J Jx : List U32 → World → Prop)
    (hY : ∀ pre x W, J pre W → pre.length < Maps.size D0 → YieldAt F (n - 1) Try.prog l #[encU x] W fun e W' =>
      (e = .returned (.bool true) ∧ J (pre ++ [x]) W' ∧ KeepsWalks W W') ∨ (e = .returned (.bool false) ∧ Jx (pre ++ [x]) W'))
    (W : World) (hJ : AbidesFrom W.heap.size J) (hm : W.cell? ⟨Bm, 0, none⟩ = some (.map (some b))) (hown : SetM W b nn D0) (h0 : J [] W) :
    CallsIn F n Try.prog 47 #[.func (.yield l) #[] #[], .pointer (some ⟨Bm, 0, none⟩)] W fun e W' => (∃ v, e = .returned v) ∧
      ((∃ ss : List U32, (ss.Nodup ∧ ss.length ≤ Maps.size D0 ∧ ∀ x : U32, x ∈ ss ↔ Maps.has D0 (keyN x.1) = true) ∧ J ss W') ∨ (∃ pre : List U32, True ∧ Jx pre W')) := by
  refine callsIn_of_wp Try.func47 rfl h10 ?_ hro
  simp only [Try.ntmps47, List.size_toArray, List.length_cons, List.length_nil, Nat.reduceAdd, Nat.reduceSub, Array.replicate_succ, Array.replicate_zero, List.push_toArray, List.append_toArray, List.nil_append, List.cons_append]
  gi_wp2_with (first
    | (gi_at_range; refine wpListIn_range_own _ rfl _ 45 rfl 22 46 lawU Try.underlying45 _ b nn _ rfl hown ?_; intro w0 hrg0 hg0 hs0)
    | gi_in)
  go_frame
  gi_loopw [3] (fun _ wr => ∃ (left : Lit → Bool) (cnt : Nat) (ss : List U32), wr.ranges Try.prog 22 (unitElem (H := Unit)) b W.heap.size nn D0 left cnt ∧ ss.length + cnt ≤ Maps.size D0 ∧ CollU D0 left ss ∧ J ss wr)
    (fun _ wr => wr.rangeLeft b W.heap.size)
  case atStart =>
    exact ⟨_, _, [], hrg0, by simp, CollU.start D0, hJ [] W w0 none h0 hg0 (fun r e => by cases e)⟩
  case round =>
    obtain ⟨left, cnt, ss, hrg, hcs, hC, hJs⟩ := hrel
    gi_wp2_with (first
      | (gi_at_next; refine wpListIn_next_ranges _ rfl _ rfl 22 lawU (unitElem (H := Unit)) encU id (fun key kl hk => by obtain ⟨x, hx, _⟩ := key_u32 hk; exact ⟨x, hx⟩) (fun v _ _ => ⟨v, rfl⟩) b W.heap.size nn _ _ _ rfl hrg ?_ ?_)
      | gi_in)
    · intro hc0 hl0
      gi_wp2
      go_end0
      exact ⟨⟨_, rfl⟩, .inl ⟨ss, ⟨hC.1, by omega, fun x => by rw [hC.2 x, hl0]; simp⟩, hJs⟩⟩
    · intro x hx c kl yd yp w2 cnt2 hkey hlk hv hat hrg2 hlt hg2 hs2 hen
      obtain ⟨x', ex, rfl⟩ := key_u32 hkey
      obtain rfl : (⟨x, hx⟩ : U32) = x' := encU_inj ex
      have hJ2 : J ss w2 := hJ ss wr w2 (some W.heap.size) hJs hg2 (fun r e => by cases e; exact ⟨Nat.le_refl _, hrg.iter_walk⟩)
      obtain ⟨fn, tmps, assign, body, hy, hR⟩ := hY ss ⟨x, hx⟩ w2 hJ2 (by omega)
      clear hs2
      gi_wp2
      refine hR.mono ?_
      have hC2 := hC.step (x := ⟨x, hx⟩) hlk hat
      rintro e W3 (⟨rfl, hJ3, hk3⟩ | ⟨rfl, hJx3⟩)
      · gi_wp2
        have hrg3 := hrg2.of_walks hk3
        go_roundw
        case rel => exact ⟨_, cnt2, ss ++ [⟨x, hx⟩], hrg3, by simp; omega, hC2, hJ3⟩
        case measure => rw [hrg3.left_eq, hrg.left_eq]; exact hlt
      · gi_wp2
        refine bodyPost_ret (results_none rfl _ _ _) rfl ?_
        exact ⟨⟨_, rfl⟩, .inr ⟨ss ++ [⟨x, hx⟩], trivial, hJx3⟩⟩
theorem keys_stops17 (F : Fence) (n : Nat) (h10 : F.fn 47) (hro : F.round = none) (hn : 1 ≤ n) (Bm b nn : Nat) (D0 : DataW Unit) (w : World) (hBm : Bm < w.heap.size)
    (hm : w.cell? ⟨Bm, 0, none⟩ = some (.map (some b))) (hown : SetM w b nn D0) :
    SeqStops F n Try.prog 47 #[.pointer (some ⟨Bm, 0, none⟩)] encU (fun ss => ss.Nodup ∧ ss.length ≤ Maps.size D0 ∧ ∀ x : U32, x ∈ ss ↔ Maps.has D0 (keyN x.1) = true) (fun _ => True) (Maps.size D0) w := fun l J Jx W hW hJ _ hY h0 => by
  have hown' : SetM W b nn D0 := by
    have hbl := hown.lt
    obtain ⟨es, clock, hb, Ft, hs, hD⟩ := hown
    exact ⟨es, clock, (hW.block b hbl).trans hb, Ft, hs, hD⟩
  exact keys1_17 F n h10 hro hn l Bm b nn D0 J Jx hY W hJ ((hW.cell (p := ⟨Bm, 0, none⟩) hBm).trans hm) hown' h0
set_option maxHeartbeats 1000000 in
theorem keys17_any (mb : Option Nat) (w : World) :
    Calls Try.prog 40 #[.map mb] w fun e w' => e = .returned (.func (.func 47) #[] #[.pointer (some ⟨w.heap.size, 0, none⟩)]) ∧ w' = w.alloc (.cells #[.map mb] 45) := by
  go_enter Try.func40, Try.ntmps40
  go_wp2
  go_ret
  exact ⟨rfl, rfl⟩
theorem own_lower {w : World} {B B' E n : Nat} {v : Value} {xs : List Value} (h : w.ownsRow B E 1 v n xs) (hb : B' ≤ B) : w.ownsRow B' E 1 v n xs := by
  obtain ⟨h1, h⟩ := h
  rcases h with ⟨rfl, he⟩ | ⟨g, cap, cur, rfl, hbase, r⟩
  · exact ⟨h1, .inl ⟨rfl, he⟩⟩
  · exact ⟨h1, .inr ⟨g, cap, cur, rfl, Nat.le_trans hb hbase, r⟩⟩
theorem infoU32 : (Try.prog.info? 22).map (fun i => (i.zero, i.size, i.bytes)) = some (some (.int .u32 0), 1, 4) := by kernel_rfl
set_option maxHeartbeats 4000000 in
theorem appendSeq17_in (n : Nat) (hn : 3 ≤ n) (Bm b nn : Nat) (D0 : DataW Unit) (w : World) (hBm : Bm < w.heap.size) (hm : w.cell? ⟨Bm, 0, none⟩ = some (.map (some b))) (hown : SetM w b nn D0) (hsz : Maps.size D0 ≤ 1000000) :
    CallsIn Fence.wide n Try.prog 48 #[.slice none 0 0, .func (.func 47) #[] #[.pointer (some ⟨Bm, 0, none⟩)]] w fun e w' =>
      ∃ (v : Value) (ss : List U32), e = .returned v ∧ (ss.Nodup ∧ ∀ x : U32, x ∈ ss ↔ Maps.has D0 (keyN x.1) = true) ∧ ss.length ≤ 1000000 ∧ w'.ownsRow w.heap.size 22 1 v ss.length (ss.map encU) ∧ Below w.heap.size w w' := by
  have h1 : 1 ≤ n := by omega
  have hmx : (1000000 : Nat) + 1 ≤ maxLen := by unfold maxLen; omega
  obtain ⟨i0, hi, hz0, hz1, hz2⟩ := info_parts infoU32
  refine callsIn_of_wp_marks Try.func48 rfl trivial ?_ rfl
  simp only [Try.ntmps48, List.size_toArray, List.length_cons, List.length_nil, Nat.reduceAdd, Nat.reduceSub, Array.replicate_succ, Array.replicate_zero, List.push_toArray, List.append_toArray, List.nil_append, List.cons_append]
  gi_wp2
  have bO := Boxed.new w 23 (.slice none 0 0)
  have hB0 : Below w.heap.size w (w.alloc (.cells #[.slice none 0 0] 23)) := (Below.refl _ w).alloc (Nat.le_refl _) _
  have hm0 := (hB0.cell (p := ⟨Bm, 0, none⟩) hBm).trans hm
  refine wpIn_rangeFunc_ownG rfl h1 (gf := 47) (lb := #[.pointer (some ⟨Bm, 0, none⟩)]) rfl trivial (enters_of Try.func47 (by kernel_rfl) rfl)
    (keys_stops17 Fence.wide (n - 1) trivial rfl (by omega) Bm b nn D0 _ (by simp; omega) hm0 (hown.alloc _)) walksK_t walksK_b (Below.refl _ _) (fun _ => rfl)
    (fun pre W => (∃ v, Boxed W w.heap.size 23 v ∧ W.ownsRow w.heap.size 22 1 v pre.length (pre.map encU) ∧ (v = .slice none 0 0 ↔ pre = [])) ∧ Below w.heap.size w W)
    (fun _ _ _ => False)
    (OwnFrom.and (Own.from (holdsRow_own w.heap.size w.heap.size 23 22 1 (fun pre => pre.length) (fun pre => pre.map encU) (fun pre v => v = .slice none 0 0 ↔ pre = [])) _) (ownFrom_below (Nat.le_refl _) (by simp)))
    (fun _ _ _ _ _ hs _ _ => hs)
    ⟨⟨_, bO, World.ownsRow_nil _ _ _ _, by simp⟩, hB0⟩
    (fun x => { tmps := #[.slice none 0 0, .func (.func 47) #[] #[.pointer (some ⟨Bm, 0, none⟩)], .pointer (some ⟨w.heap.size, 0, none⟩), undef, .slice none 0 0, .int .u32 ((x.1 : Nat) : Int), .func (.func 47) #[] #[.pointer (some ⟨Bm, 0, none⟩)], .int .u32 ((x.1 : Nat) : Int), undef, undef, undef, undef, undef], defers := [] }) ?assign ?body ?done ?stop
  case assign =>
    intro l x W K hK
    gi_wp2
    exact hK
  case body =>
    rintro l pre x W ⟨⟨v, hv, hrow, hnil⟩, hB⟩ hlt
    have hc := hv.cell
    gi_wp2_with (gi_at_builtin; refine wpListIn_append_own _ rfl _ _ 23 rfl w.heap.size 22 i0 (.int .u32 0) 1 4 Try.underlying23 hi hz0 hz1 hz2 rfl (by decide) _ _ _ rfl (hrow.alloc _) ⟨W.heap.size, 0, none⟩ 1 1 [.int .u32 ((x.1 : Nat) : Int)] rfl rfl (cell_one_new _ _ _) (by simp [Value.oneCell']) (by omega) (by omega) (by have := hB.size; simp; omega) ?_; intro v' w1 hown' hgrow _; obtain ⟨g', cap', rfl⟩ := ownsRow_succ hown'; obtain ⟨hv1, hv2, hr2, hk2, hb2⟩ := hv.appended (by decide) hrow hB.size (Nat.le_refl _) hown' hgrow; have hc1 := hv1.cell; have hf1 := hv1.frozen)
    exact ⟨hk2.from _, hk2.walks, ⟨_, hv2, by simpa [encU] using hr2, by simp⟩, hB.trans hb2⟩
  case done =>
    rintro D ys W hD hS ⟨⟨v, hv, hrow, hnil⟩, hB⟩ hK
    have hc := hv.cell
    gi_wp2
    refine ⟨by simp, .inl ⟨_, _, rfl, run_takeDeferred hK, ?_⟩⟩
    exact ⟨_, results_tmp rfl _ _ _, v, ys, rfl, ⟨hS.1, hS.2.2⟩, Nat.le_trans hS.2.1 hsz, ownsRow_putObj hrow _ hK rfl, hB.trans (belowK_b (w := w) (Nat.le_refl _) W D _ _ (by simp at hD; omega) hK rfl rfl)⟩
  case stop =>
    rintro D c pre W _ _ h _
    exact h.elim
set_option maxHeartbeats 1000000 in
theorem collect17_any (Bm b nn : Nat) (D0 : DataW Unit) (w : World) (hBm : Bm < w.heap.size) (hm : w.cell? ⟨Bm, 0, none⟩ = some (.map (some b))) (hown : SetM w b nn D0) (hsz : Maps.size D0 ≤ 1000000) :
    Calls Try.prog 45 #[.func (.func 47) #[] #[.pointer (some ⟨Bm, 0, none⟩)]] w fun e w' =>
      ∃ (v : Value) (ss : List U32), e = .returned v ∧ (ss.Nodup ∧ ∀ x : U32, x ∈ ss ↔ Maps.has D0 (keyN x.1) = true) ∧ ss.length ≤ 1000000 ∧ w'.ownsRow w.heap.size 22 1 v ss.length (ss.map encU) ∧ Below w.heap.size w w' := by
  have H := Lib.hid ((callsIn_wide (n := 3)).1 (appendSeq17_in 3 (by decide) Bm b nn D0 w hBm hm hown hsz))
  clear hm hown
  go_enter Try.func45, Try.ntmps45
  go_wp2_with fail
  refine (H.out).mono ?_; rintro e w' ⟨v, ss, rfl, hS, hl, hrow, hb⟩
  have HX := Lib.hid (And.intro hS (And.intro hl (And.intro hrow hb)))
  obtain ⟨pa, pc, rfl⟩ := own_slice hrow
  clear hS hl hrow hb
  go_wp2_with fail
  go_ret
  exact ⟨_, ss, rfl, HX.out.1, HX.out.2.1, HX.out.2.2.1, HX.out.2.2.2⟩
set_option maxHeartbeats 2000000 in
theorem sortedFunc17_any (Bm b nn : Nat) (D0 : DataW Unit) (w : World) (F : Nat) (cf : U32 → U32 → Int) (hO : SWO (ltOf cf)) (eg : ∀ args w, (callFunc F args).run Try.prog w = .ok (.enter F args) w) (hc : CmpU F cf)
    (hBm : Bm < w.heap.size) (hm : w.cell? ⟨Bm, 0, none⟩ = some (.map (some b))) (hown : SetM w b nn D0) (hsz : Maps.size D0 ≤ 1000000) :
    Calls Try.prog 39 #[.func (.func 47) #[] #[.pointer (some ⟨Bm, 0, none⟩)], .func (.func F) #[] #[]] w fun e w' =>
      ∃ (v : Value) (L : List U32), e = .returned v ∧ (L.Nodup ∧ ∀ x : U32, x ∈ L ↔ Maps.has D0 (keyN x.1) = true) ∧ L.Pairwise (fun a b => ltOf cf b a = false) ∧ L.length ≤ 1000000 ∧ w'.ownsRow w.heap.size 22 1 v L.length (L.map encU) ∧ Below w.heap.size w w' := by
  have H := Lib.hid (collect17_any Bm b nn D0 w hBm hm hown hsz)
  have HS := Lib.hid (fun w1 base v (l : List U32) hv hl => sort17_any w1 base v l F cf hO eg hc hv hl)
  clear hm hown hO eg hc
  go_enter Try.func39, Try.ntmps39
  go_wp2_with fail
  refine (H.out).mono ?_; rintro e w1 ⟨v, ss, rfl, hS, hl, hrow, hb⟩
  have HX := Lib.hid (And.intro hS (And.intro hl (And.intro hrow hb)))
  have HT := Lib.hid (HS.out w1 _ _ ss hrow (by omega))
  obtain ⟨pa, pc, rfl⟩ := own_slice hrow
  clear hS hl hrow hb HS H
  go_wp2_with fail
  refine (HT.out).mono ?_; rintro e w2 ⟨rfl, ⟨L, hp, hpw, hr2⟩, hg⟩
  have HL := Lib.hid (And.intro hp (And.intro hpw (And.intro hr2 hg)))
  clear hp hpw hr2 hg
  go_wp2_with fail
  go_ret
  have hp := HL.out.1
  refine ⟨_, L, rfl, ⟨hp.nodup_iff.2 HX.out.1.1, fun x => by rw [hp.mem_iff]; exact HX.out.1.2 x⟩, HL.out.2.1, by rw [hp.length_eq]; exact HX.out.2.1, HL.out.2.2.1, HX.out.2.2.2.grown HL.out.2.2.2 HX.out.2.2.2.size (fun k hk => (HX.out.2.2.1.lt k hk).1)⟩
set_option maxHeartbeats 2000000 in
theorem sorted17_any (b nn : Nat) (D0 : DataW Unit) (w : World) (F : Nat) (cf : U32 → U32 → Int) (hO : SWO (ltOf cf)) (eg : ∀ args w, (callFunc F args).run Try.prog w = .ok (.enter F args) w) (hc : CmpU F cf) (hown : SetM w b nn D0) (hsz : Maps.size D0 ≤ 1000000) :
    Calls Try.prog 26 #[.map (some b), .func (.func F) #[] #[]] w fun e w' =>
      ∃ (v : Value) (L : List U32), e = .returned v ∧ (L.Nodup ∧ ∀ x : U32, x ∈ L ↔ Maps.has D0 (keyN x.1) = true) ∧ L.Pairwise (fun a b => ltOf cf b a = false) ∧ L.length ≤ 1000000 ∧ w'.ownsRow w.heap.size 22 1 v L.length (L.map encU) ∧ Below w.heap.size w w' := by
  have HK := Lib.hid (fun w => keys17_any (some b) w)
  have HB := Lib.hid (below_one w (.cells #[.map (some b)] 45))
  have HF := Lib.hid (sortedFunc17_any w.heap.size b nn D0 (w.alloc (.cells #[.map (some b)] 45)) F cf hO eg hc (by simp) (by simp [go_sem]) (hown.alloc _) hsz)
  clear hO eg hc hown
  go_enter Try.func26, Try.ntmps26
  go_wp2_with fail
  refine (HK.out _).mono ?_; rintro e w1 ⟨rfl, rfl⟩
  go_wp2_with fail
  refine (HF.out).mono ?_; rintro e w2 ⟨v, L, rfl, hS, hpw, hl, hrow, hb⟩
  have HX := Lib.hid (And.intro hS (And.intro hpw (And.intro hl (And.intro hrow hb))))
  obtain ⟨pa, pc, rfl⟩ := own_slice hrow
  clear hS hpw hl hrow hb HK HF
  go_wp2_with fail
  go_ret
  have hsz := HB.out.size
  exact ⟨_, L, rfl, HX.out.1, HX.out.2.1, HX.out.2.2.1, own_lower HX.out.2.2.2.1 hsz, below_then HB.out HX.out.2.2.2.2⟩
end Go.Proofs.Ytdopgpijbilffaa
