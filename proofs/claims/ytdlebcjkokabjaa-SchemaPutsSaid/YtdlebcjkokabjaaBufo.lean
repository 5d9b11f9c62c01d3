/- The writer's bytes. -/
import Derived.Test.YtdlebcjkokabjaaBufn
import Derived.Laws.CopyRow
import Derived.Laws.IdiomCopy
import Derived.Laws.OwnMore
import Derived.Laws.MakeOwn
namespace Go.Proofs.Ytdlebcjkokabjaa
set_option maxRecDepth 100000
open Go.RowKit
set_option linter.unusedVariables false
def RowAt (w : World) (G : Nat) (zs : List Int) : Prop := w.heap[G]? = some (.cells (zs.map (Value.int .u8)).toArray 5 (0, 0))
theorem RowAt.own {w : World} {B G : Nat} {zs : List Int} (h : RowAt w G zs) (hB : B ≤ G) (hl : zs.length ≤ maxLen) : BOwn w B (.slice (some ⟨G, 0, none⟩) zs.length zs.length) zs :=
  ⟨by simp, .inr ⟨G, zs.length, _, rfl, hB, h, Nat.le_refl _, hl, by simp, by rw [Nat.mul_one]; exact List.take_of_length_le (by simp)⟩⟩
theorem setRow_grown (w : World) (G : Nat) (cs : Array Value) : w.grownBy (w.setRow G cs) (some G) :=
  ⟨rfl, rfl, rfl, by simp [World.setRow], fun k _ hn => by
    have hk : G ≠ k := fun e => hn (by rw [e])
    simp [World.setRow, Array.getElem?_modify, hk]⟩
/-- A copy of bytes that lie elsewhere into a row. -/
theorem copy_step {w : World} {G o : Nat} {zs e : List Int} {a : Option Addr} {c : Nat} (hr : RowAt w G zs) (ho : o + e.length ≤ zs.length) (hs : Ints .u8 w (.slice a e.length c) e) :
    ∃ W' x, (∀ ty, (Builtin.copy_ #[42, 42] ty #[.slice (if zs.length = o then some ⟨G, 0, none⟩ else (some (⟨G, 0, none⟩ : Addr)).map (·.add (o * 1))) (zs.length - o) (zs.length - o), .slice a e.length c]).run Try.prog w = .ok x W') ∧
      RowAt W' G (zs.take o ++ e ++ zs.drop (o + e.length)) ∧ w.grownBy W' (some G) := by
  obtain ⟨i0, hi, hz0, hz1, hz2⟩ := info_parts Try.infoU8
  have hsz : (Try.prog.info? 5).map (·.size) = some 1 := by rw [hi]; simp [hz1]
  by_cases h0 : e.length = 0
  · have h1 : e = [] := List.length_eq_zero_iff.1 h0
    refine ⟨w, _, fun ty => run_copy_none (P := Try.prog) w _ _ ty 5 _ a _ _ _ _ Try.underlying42 hsz (by rw [h0]; exact Nat.zero_min _), ?_, World.grownBy.refl w _⟩
    subst h1
    simpa using hr
  · obtain ⟨a', cap', e1, hc, ha⟩ := hs
    simp only [Value.slice.injEq, true_and] at e1
    obtain ⟨rfl, rfl⟩ := e1
    rcases ha with h' | ⟨b, off, rfl, hb, hcell⟩
    · subst h'; simp at h0
    have hadd : (if zs.length = o then some (⟨G, 0, none⟩ : Addr) else (some (⟨G, 0, none⟩ : Addr)).map (·.add (o * 1))) = some ⟨G, o, none⟩ := by
      rw [if_neg (by omega), Nat.mul_one]
      by_cases k0 : o = 0
      · subst k0; simp [Addr.add]
      · simp [Addr.add, k0]
    rw [hadd]
    have hrun := fun ty => run_copy_row (P := Try.prog) w 42 42 ty 5 G o (zs.length - o) (zs.length - o) ⟨b, off, none⟩ e.length c _ _ (e.map (Value.int .u8)) Try.underlying42 hsz hr
      (by rw [List.length_map]; exact (Nat.min_eq_left (by omega)).symm)
      (fun j v hj => by
        rw [List.getElem?_map] at hj
        obtain ⟨x, hx, rfl⟩ := Option.map_eq_some_iff.1 hj
        have hl := (List.getElem?_eq_some_iff.1 hx).1
        have hh := hcell j hl
        have e1 : e.getD j 0 = x := by simp [List.getD, hx]
        rw [e1] at hh
        by_cases h0 : j = 0
        · subst h0; simpa [Addr.add] using hh
        · simpa [Addr.add, h0] using hh)
      (by simp; omega)
      (fun v hv => by obtain ⟨x, _, rfl⟩ := List.mem_map.1 hv; rfl)
    refine ⟨_, _, hrun, ?_, setRow_grown w G _⟩
    unfold RowAt
    rw [setRow_heap w G _ _ _ _ hr]
    simp [List.map_take, List.map_drop]
theorem bytes_no (w : World) (v : Value) (h : NoOut w v) :
    Calls Try.prog 45 #[v] w fun r w' => r = .returned (.slice none 0 0) ∧ w = w' := by
  have HU := Lib.hid (usable_no w v h)
  clear h
  go_enter Try.func45, Try.ntmps45
  go_wp2_with fail
  refine (HU.out).mono ?_; rintro r w1 ⟨rfl, rfl⟩
  go_wp2_with fail
  go_ret
  exact ⟨rfl, rfl⟩
def Done (w : World) (l : List Int) (G : Nat) (pv : Value) (R : List (List Int)) (wr : World) : Prop := ∃ tail, l = catR R ++ tail ∧ Chain w pv R ∧ RowAt wr G (List.replicate (catR R).length 0 ++ tail) ∧ Below w.heap.size w wr
theorem rep_take (a : Nat) (tail e : List Int) : (List.replicate (a + e.length) (0 : Int) ++ tail).take a ++ e ++ (List.replicate (a + e.length) (0 : Int) ++ tail).drop (a + e.length) = List.replicate a 0 ++ (e ++ tail) := by
  rw [List.take_append_of_le_length (by simp), List.drop_append_of_le_length (by simp), List.take_replicate, List.drop_replicate, Nat.min_eq_left (by omega), Nat.sub_self]
  simp
set_option maxHeartbeats 4000000 in
theorem bytes_any (w : World) (N : Nat) (L : List (List Int)) (h : OutAt w N L) (hl : (catR L).length ≤ 2000000) :
    Calls Try.prog 45 #[.pointer (some ⟨N, 0, none⟩)] w (BytesP w (catR L)) := by
  obtain ⟨i0, hi, hz0, hz1, hz2⟩ := info_parts Try.infoU8
  have HU := Lib.hid (usable_any w N L h)
  obtain ⟨x, h1, h2⟩ := h
  have hN := h1.lt
  have HL := Lib.hid hl
  have hmk := run_make (P := Try.prog) w 42 5 i0 (.int .u8 0) Try.underlying42 hi hz0 .i64 .i64 (catR L).length (catR L).length (by omega) (Int.le_refl _) (by rw [hz2]; omega) (by omega)
  have hrow : RowAt (w.alloc (.cells (madeCells (Value.int .u8 0).cells (((catR L).length : Int).toNat * i0.size)) 5)) w.heap.size (List.replicate (catR L).length 0) := by
    unfold RowAt
    rw [heap_alloc_new]
    congr 2
    apply Array.toList_inj.1
    rw [hz1, Nat.mul_one, Int.toNat_natCast, show (Value.int .u8 0).cells = #[Value.int .u8 0] from rfl, toList_madeCells_one]
    simp
  have hb1 := below_one w (.cells (madeCells (Value.int .u8 0).cells (((catR L).length : Int).toNat * i0.size)) 5)
  simp only [Int.toNat_natCast, hz1, Nat.mul_one, show (Value.int .u8 0).cells = #[Value.int .u8 0] from rfl] at hmk hrow hb1
  have h3 := (h1.below hb1).reads
  have HD := Lib.hid (show Done w (catR L) w.heap.size x L _ from ⟨[], by simp, h2, by simpa using hrow, hb1⟩)
  obtain ⟨r0, r1, r2⟩ := h1.reads
  obtain ⟨s0, s1, s2⟩ := h3
  have hx : ∃ p, x = .pointer p := by
    cases L with
    | nil => exact ⟨_, h2⟩
    | cons e r => obtain ⟨M, d, u, hx, -⟩ := h2; exact ⟨_, hx⟩
  obtain ⟨p, rfl⟩ := hx
  clear h1 h2 hrow hb1
  go_enter Try.func45, Try.ntmps45
  go_wp2_with fail
  refine (HU.out).mono ?_; rintro r w1 ⟨rfl, rfl⟩
  go_wp2_with fail
  have HG := Lib.hid (show w.heap.size < w.heap.size + 1 by omega)
  clear hmk s0 s1 s2
  go_loopw [4, 5] (fun ev pv wr => ∃ R, ev = .int .i64 ((catR R).length : Nat) ∧ (∃ p, pv = .pointer p) ∧ Hid (Done w (catR L) w.heap.size pv R wr)) (fun ev _ _ => (intOf ev).toNat)
  case atStart => exact ⟨L, rfl, ⟨_, rfl⟩, HD⟩
  case round =>
    obtain ⟨R, rfl, ⟨p2, rfl⟩, hD⟩ := hrel
    obtain ⟨tail, t1, t2, t3, t4⟩ := hD.out
    have hlen : (catR R).length ≤ 2000000 := by have := HL.out; rw [t1] at this; simp at this; omega
    cases R with
    | nil =>
      have hp : Value.pointer p2 = .pointer none := t2
      cases hp
      have HE := Lib.hid (show BytesP w (catR L) (.returned (.slice (some ⟨w.heap.size, 0, none⟩) (catR L).length (catR L).length)) wr from ⟨⟨_, rfl, by
        rw [t1]; exact RowAt.own (by simpa [catR] using t3) (Nat.le_refl _) (by have := HL.out; rw [t1] at this; unfold maxLen; simp [catR] at this ⊢; omega)⟩, t4⟩)
      clear t1 t2 t3 t4 hD HD
      go_wp2_with fail
      go_ret
      exact HE.out
    | cons e r =>
      obtain ⟨M, d, u, hp, hM, he, hd, ht, hc⟩ := t2
      cases hp
      have hx : ∃ p3, u = .pointer p3 := by
        cases r with
        | nil => exact ⟨_, hc⟩
        | cons e2 r2 => obtain ⟨_, _, _, hx, -⟩ := hc; exact ⟨_, hx⟩
      obtain ⟨p3, rfl⟩ := hx
      have hds := (hd.below t4)
      have hMs : M < w.heap.size := (Array.getElem?_eq_some_iff.1 hM).1
      have hM2 := (t4.block M hMs).trans hM
      obtain ⟨a, c, rfl, -, -⟩ := hd
      obtain ⟨o, ho⟩ : ∃ o, (catR r).length = o := ⟨_, rfl⟩
      have hcr : (catR (e :: r)).length = o + e.length := by simp [catR, ho]
      have hT : (catR L).length = o + e.length + tail.length := by rw [t1, List.length_append, hcr]
      have hcat : catR L = catR r ++ (e ++ tail) := by rw [t1]; simp [catR]
      rw [hcr] at t3
      obtain ⟨W', xv, hcp, hrow2, hgr⟩ := copy_step (w := wr.drew) (G := w.heap.size) (zs := List.replicate (o + e.length) 0 ++ tail) (o := o) (a := a) (c := c) (e := e) t3 (by simp) hds
      rw [rep_take] at hrow2
      have hzl : (List.replicate (o + e.length) (0 : Int) ++ tail).length = (catR L).length := by rw [hT]; simp
      rw [hzl] at hcp
      have hop := fun w' => run_from (w := w') (a := some ⟨w.heap.size, 0, none⟩) (cap := (catR L).length) (l := (catR L).length) (k := o) (by omega) size1
      have hbw : Below w.heap.size w W' := t4.drew.grown hgr t4.size (fun k hk => by have e : w.heap.size = k := Option.some.inj hk; omega)
      have HD2 := Lib.hid (show Done w (catR L) w.heap.size (.pointer p3) r W' from ⟨e ++ tail, hcat, hc, by rw [ho]; exact hrow2, hbw⟩)
      have hM3 := (hbw.block M hMs).trans hM
      have c0 : wr.cell? ⟨M, 1, none⟩ = some (.slice a e.length c) := by simp [World.cell?, hM2]
      have c1 : wr.drew.cell? ⟨M, 1, none⟩ = some (.slice a e.length c) := by simpa using c0
      have c2 : W'.cell? ⟨M, 0, none⟩ = some (.pointer p3) := by simp [World.cell?, hM3]
      have i1 : IntKind.i64.wrap ((o + e.length : Nat) - (e.length : Int)) = (o : Nat) := by rw [IntWalk.i64_in _ (by omega)]; omega
      have HM := Lib.hid (And.intro he hcr)
      rw [hcr] at hlen ⊢
      generalize (catR L).length = T at *
      have HO := Lib.hid (show Value.int .i64 (o : Int) = .int .i64 ((catR r).length : Nat) by rw [ho])
      clear ho
      generalize (if T = o then some (⟨w.heap.size, 0, none⟩ : Addr) else (some (⟨w.heap.size, 0, none⟩ : Addr)).map (·.add (o * 1))) = q at *
      clear hcat hc hrow2 hgr hds hM hM2 hM3 t1 t3 hD HD hcr hzl ht hT
      simp only [Int.natCast_add] at i1
      go_upto_region 9 with fail
      go_region
      go_wp2_with fail
      go_roundw
      case rel => exact ⟨r, HO.out, ⟨_, rfl⟩, HD2⟩
      case measure => have := HM.out.1; simp [intOf]; omega
end Go.Proofs.Ytdlebcjkokabjaa
