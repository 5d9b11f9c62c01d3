/- What Text of package nat returns. -/
import Derived.Test.YtpfcacjcikhamaaDoorNatu
import Derived.Test.YtpfcacjcikhamaaDoorNatr
import Derived.Deep.LoopGhost
import Derived.Laws.IdiomStrings
namespace Go.Proofs.YtpfcacjcikhamaaDoor
set_option maxRecDepth 100000
open Go.RowKit
set_option linter.unusedVariables false
/-- Decimal digits, the lowest first. -/
def v10 : List Int → Int
  | [] => 0
  | d :: t => d + 10 * v10 t
def Ten (ds : List Int) : Prop := ∀ d ∈ ds, 0 ≤ d ∧ d ≤ 9
theorem t_pos (n : Nat) : (0 : Int) < 10 ^ n := Int.pow_pos (by decide)
theorem v10_snoc (ds : List Int) (d : Int) : v10 (ds ++ [d]) = v10 ds + 10 ^ ds.length * d := by
  induction ds with
  | nil => simp [v10]
  | cons c t ih =>
    rw [List.cons_append, v10, ih, v10, List.length_cons, Int.pow_succ, Int.mul_add, Int.mul_comm (10 ^ t.length) 10, Int.mul_assoc]; omega
theorem Ten.snoc {ds : List Int} (h : Ten ds) {d : Int} (d0 : 0 ≤ d) (d1 : d ≤ 9) : Ten (ds ++ [d]) := by
  intro y hy
  rcases List.mem_append.1 hy with hy | hy
  · exact h y hy
  · simp at hy; subst hy; exact ⟨d0, d1⟩
theorem Ten.take {ds : List Int} (h : Ten ds) (n : Nat) : Ten (ds.take n) := fun x hx => h x (List.mem_of_mem_take hx)
theorem v10_nonneg {ds : List Int} (h : Ten ds) : 0 ≤ v10 ds := by
  induction ds with
  | nil => simp [v10]
  | cons c t ih =>
    have := h c (by simp)
    have := ih (fun x hx => h x (List.mem_cons_of_mem _ hx))
    rw [v10]; omega
def byteOf (d : Int) : UInt8 := UInt8.ofNat (48 + d).toNat
theorem byteOf_toNat {d : Int} (d0 : 0 ≤ d) (d1 : d ≤ 9) : ((byteOf d).toNat : Int) = 48 + d := by
  unfold byteOf
  rw [UInt8.toNat_ofNat_of_lt' (by show _ < 256; omega)]; omega
theorem decI_rev {ds : List Int} (h : Ten ds) : decI (ds.reverse.map byteOf) = v10 ds := by
  induction ds with
  | nil => rfl
  | cons c t ih =>
    have hc := h c (by simp)
    rw [List.reverse_cons, List.map_append, List.map_singleton, decI_snoc, ih (fun x hx => h x (List.mem_cons_of_mem _ hx)), byteOf_toNat hc.1 hc.2, v10]; omega
/-- The text of a number: digits, and no nought ahead of others. -/
def IsDec (l : List UInt8) (z : Int) : Prop := l.all isDig = true ∧ decI l = z ∧ l ≠ [] ∧ (l.head? = some 48 → l = [48])
theorem isDec_zero : IsDec [48] 0 := ⟨rfl, rfl, by simp, fun _ => rfl⟩
theorem isDec_rev {ds : List Int} (h : Ten ds) (hne : ds ≠ []) (hl : ds.getD (ds.length - 1) 0 ≠ 0) : IsDec (ds.reverse.map byteOf) (v10 ds) := by
  refine ⟨?_, decI_rev h, by simpa using hne, fun e => ?_⟩
  · rw [List.all_eq_true]
    intro c hc
    obtain ⟨d, hd, rfl⟩ := List.mem_map.1 hc
    have := h d (List.mem_reverse.1 hd)
    have h2 := byteOf_toNat this.1 this.2
    rw [isDig_iff]; omega
  · exfalso
    obtain ⟨t, d, rfl⟩ : ∃ t d, ds = t ++ [d] := by
      rcases List.eq_nil_or_concat ds with h | ⟨t, d, h⟩
      · exact absurd h hne
      · exact ⟨t, d, by simpa using h⟩
    simp [List.getD] at hl
    have hd := h d (by simp)
    rw [List.reverse_append] at e
    simp at e
    have h2 := byteOf_toNat hd.1 hd.2
    rw [e] at h2
    have : ((48 : UInt8).toNat : Int) = 48 := rfl
    omega
theorem other_block {w : World} {B : Nat} {rv dv : Value} {n m : Nat} {xs ys : List Value} (hr : w.ownsRow B 31 1 rv n xs) (hd : w.ownsRow B 5 1 dv m ys) : rv.ownBlock = none ∨ rv.ownBlock ≠ dv.ownBlock := by
  rcases hr.2 with ⟨rfl, _⟩ | ⟨g, cap, cur, rfl, _, h1, _⟩
  · exact .inl rfl
  · rcases hd.2 with ⟨rfl, _⟩ | ⟨g', cap', cur', rfl, _, h2, _⟩
    · exact .inr (by simp [Value.ownBlock])
    · refine .inr (fun e => ?_)
      simp only [Value.ownBlock, Option.some.injEq] at e
      subst e
      rw [h1] at h2
      simp only [Option.some.injEq, Obj.cells.injEq] at h2
      exact absurd h2.2.1 (by decide)
theorem other_block' {w : World} {B : Nat} {rv dv : Value} {n m : Nat} {xs ys : List Value} (hr : w.ownsRow B 31 1 rv n xs) (hd : w.ownsRow B 5 1 dv m ys) : dv.ownBlock = none ∨ dv.ownBlock ≠ rv.ownBlock := by
  rcases hd.2 with ⟨rfl, _⟩ | ⟨g', cap', cur', rfl, _, h2, _⟩
  · exact .inl rfl
  · rcases other_block hr hd with h | h
    · rw [h]; exact .inr (by simp [Value.ownBlock])
    · exact .inr (fun e => h e.symm)
theorem pow_bound {n m : Nat} {z : Int} (h : (10 : Int) ^ n ≤ z) (hz : z < 4294967296 ^ m) : n ≤ m * 32 := by
  by_cases e : n ≤ m * 32
  · exact e
  · exfalso
    rw [pow32] at hz
    have h1 : (2 : Int) ^ n ≤ 10 ^ n := by
      have : (2 : Nat) ^ n ≤ 10 ^ n := Nat.pow_le_pow_left (by decide) n
      have e1 : ((2 ^ n : Nat) : Int) = (2 : Int) ^ n := by simp
      have e2 : ((10 ^ n : Nat) : Int) = (10 : Int) ^ n := by simp
      omega
    have h2 := pow2_mono (m := m * 32) (n := n) (by omega)
    omega
theorem Tryd.infoU8 : (Tryd.prog.info? 5).map (fun i => (i.zero, i.size, i.bytes)) = some (some (.int .u8 0), 1, 1) := by kernel_rfl
def TextPost (z : Int) (w : World) (e : Ending) (w' : World) : Prop := ∃ s : ByteArray, e = .returned (.string s) ∧ IsDec s.data.toList z ∧ Below w.heap.size w w'
/-- The digits that are out, and the rest. -/
def TextRel (B : Nat) (z : Int) (x ds : List Int) (rv dv : Value) (w wr : World) : Prop :=
  wr.ownsRow B 31 1 rv x.length (x.map (Value.int .u32)) ∧ Wd x ∧ Tidy x ∧ x.length ≤ 1000000 ∧ wr.ownsRow B 5 1 dv (ds.map (48 + ·)).length ((ds.map (48 + ·)).map (Value.int .u8)) ∧ Ten ds ∧ z = v10 ds + 10 ^ ds.length * wv x ∧ Below B w wr
/-- In the middle of a chunk. -/
def ChunkRel (B : Nat) (z : Int) (n : Nat) (x ds : List Int) (p : Int) (j : Nat) (rv dv : Value) (w wr : World) : Prop :=
  wr.ownsRow B 31 1 rv x.length (x.map (Value.int .u32)) ∧ Wd x ∧ Tidy x ∧ x.length ≤ 1000000 ∧ wr.ownsRow B 5 1 dv (ds.map (48 + ·)).length ((ds.map (48 + ·)).map (Value.int .u8)) ∧ Ten ds ∧ ds.length = n + j ∧ z = v10 ds + 10 ^ ds.length * (p + 10 ^ (9 - j) * wv x) ∧ 0 ≤ p ∧ p < 10 ^ (9 - j) ∧ Below B w wr
theorem ChunkRel.stop {B : Nat} {z : Int} {n : Nat} {x ds : List Int} {p : Int} {rv dv : Value} {w wr : World} (h : ChunkRel B z n x ds p 9 rv dv w wr) : TextRel B z x ds rv dv w wr := by
  obtain ⟨h1, h2, h3, h4, h5, h6, h7, h8, h9, h10, h11⟩ := h
  have : p = 0 := by simp at h10; omega
  subst this
  refine ⟨h1, h2, h3, h4, h5, h6, ?_, h11⟩
  rw [h8]; simp
theorem ChunkRel.push {B : Nat} {z : Int} {n : Nat} {x ds : List Int} {p : Int} {j : Nat} {rv dv dv' : Value} {w wr w1 : World} {ob : Obj} (h : ChunkRel B z n x ds p j rv dv w wr) (hj : j < 9) (hB : B ≤ wr.heap.size)
    (hown : w1.ownsRow B 5 1 dv' ((ds.map (48 + ·)).length + 1) ((ds.map (48 + ·)).map (Value.int .u8) ++ [.int .u8 (48 + p % 10)])) (hg : (wr.alloc ob).grownBy w1 dv.ownBlock) :
    ChunkRel B z n x (ds ++ [p % 10]) (p / 10) (j + 1) rv dv' w w1 := by
  obtain ⟨h1, h2, h3, h4, h5, h6, h7, h8, h9, h10, h11⟩ := h
  obtain ⟨t, ht⟩ : ∃ t, 9 - j = t + 1 := ⟨8 - j, by omega⟩
  have ht2 : 9 - (j + 1) = t := by omega
  refine ⟨World.ownsRow.kept (h1.alloc ob) hg (other_block h1 h5), h2, h3, h4, by simpa using hown, h6.snoc (by omega) (by omega), by simp; omega, ?_, by omega, ?_, ?_⟩
  · rw [h8, v10_snoc, List.length_append, List.length_singleton, Int.pow_succ, ht, ht2, Int.pow_succ]
    have e1 : (10 : Int) ^ t * 10 * wv x = 10 * (10 ^ t * wv x) := by rw [Int.mul_comm (10 ^ t) 10, Int.mul_assoc]
    rw [e1]
    generalize (10 : Int) ^ t * wv x = V
    generalize (10 : Int) ^ ds.length = P
    have e2 : P * (p + 10 * V) = P * (p % 10) + P * 10 * (p / 10 + V) := by
      rw [Int.mul_assoc P 10, ← Int.mul_add]; congr 1; omega
    omega
  · rw [ht, Int.pow_succ] at h10
    rw [ht2]; omega
  · refine (h11.alloc hB ob).grown hg ?_ ?_
    · simp; omega
    · intro k hk; exact (h5.lt k hk).1
theorem TextRel.chunk {B : Nat} {z : Int} {x ds y : List Int} {rv rv' dv : Value} {w wr w1 : World} (h : TextRel B z x ds rv dv w wr) (hrow : w1.ownsRow B 31 1 rv' y.length (y.map (Value.int .u32))) (hd : Wd y) (ht : Tidy y) (hl : y.length ≤ x.length) (hy : wv y = wv x / 1000000000)
    (hdv : w1.ownsRow B 5 1 dv (ds.map (48 + ·)).length ((ds.map (48 + ·)).map (Value.int .u8))) (hb : Below B w w1) : ChunkRel B z ds.length y ds (wv x % 1000000000) 0 rv' dv w w1 := by
  obtain ⟨h1, h2, h3, h4, h5, h6, h7, h8⟩ := h
  refine ⟨hrow, hd, ht, by omega, hdv, h6, by omega, ?_, by omega, ?_, hb⟩
  · have e : (10 : Int) ^ (9 - 0) = 1000000000 := by decide
    rw [h7, e, hy]; congr 2; omega
  · have e : (10 : Int) ^ (9 - 0) = 1000000000 := by decide
    rw [e]; omega
theorem TextRel.len {B : Nat} {z : Int} {x ds : List Int} {rv dv : Value} {w wr : World} (h : TextRel B z x ds rv dv w wr) (hne : x ≠ []) {m : Nat} (hz : z < 4294967296 ^ m) : ds.length ≤ m * 32 ∧ 0 < wv x := by
  obtain ⟨h1, h2, h3, h4, h5, h6, h7, h8⟩ := h
  have hp := h3.wpos h2 hne
  refine ⟨pow_bound (z := z) ?_ hz, hp⟩
  have h9 := v10_nonneg h6
  have h10 : 10 ^ ds.length * 1 ≤ 10 ^ ds.length * wv x := Int.mul_le_mul_of_nonneg_left (by omega) (Int.le_of_lt (t_pos _))
  omega
theorem take_snocD (l : List Int) (k : Nat) (h : k < l.length) : l.take (k + 1) = l.take k ++ [l.getD k 0] := by
  rw [List.take_succ_eq_append_getElem h]; simp [List.getD, h]
theorem text_back (w : World) (ds : List Int) (g cap B : Nat) (h : Ten ds) (hr : BRow w B g cap ((ds.map (48 + ·)).reverse)) :
    (convert 74 9 (.slice (some ⟨g, 0, none⟩) ds.length cap)).run Tryd.prog w = .ok (.string ⟨(ds.reverse.map byteOf).toArray⟩) w := by
  have hl : (ds.reverse.map byteOf).length = ds.length := by simp
  have := run_convert_bytes_back (P := Tryd.prog) w 74 9 5 ⟨g, 0, none⟩ cap (ds.reverse.map byteOf) Tryd.underlying74 Tryd.underlying5 Tryd.underlying9 (fun j hj => by
    have hc := (hr.facts.2.2.2.2 j (by simpa using hj)).1
    have hj2 : j < ds.reverse.length := by simpa using hj
    have e : ((ds.map (48 + ·)).reverse).getD j 0 = (((ds.reverse.map byteOf)[j]).toNat : Int) := by
      rw [List.getElem_map]
      have hm := h _ (List.mem_reverse.1 (List.getElem_mem hj2))
      rw [byteOf_toNat hm.1 hm.2]
      have e2 : ((ds.map (48 + ·)).reverse)[j]? = some (48 + ds.reverse[j]) := by
        rw [← List.map_reverse, List.getElem?_map, List.getElem?_eq_getElem hj2]; rfl
      rw [List.getD, e2]; rfl
    rw [e] at hc
    by_cases h0 : j = 0
    · subst h0; simpa [Addr.add] using hc
    · simpa [Addr.add, h0] using hc)
  rw [hl] at this
  exact this
set_option maxHeartbeats 1000000 in
theorem text_zero (u : Value) (a : List Int) (w : World) (hu : WList w u a) (hz : wv a = 0) :
    Calls Tryd.prog 26 #[u] w (TextPost 0 w) := by
  have HTr := Lib.hid (trim_any u a w hu _ hz)
  clear hu hz
  go_enter Tryd.func26, Tryd.ntmps26
  go_wp2_with fail
  refine (HTr.out).mono ?_; rintro e w1 ⟨u1, x, rfl, hown, hd, ht, hz1, hm, hb1⟩
  have hx : x = [] := (ht.wzero hd).1 hz1
  subst hx
  obtain ⟨p, c, rfl⟩ := own_slice hown
  clear hown
  go_wp2_with fail
  go_ret
  exact ⟨_, rfl, isDec_zero, hb1⟩
set_option maxHeartbeats 2000000 in
theorem text_pos (u : Value) (a : List Int) (w : World) (hu : WList w u a) (hz : 0 < wv a) (la : a.length ≤ 1000000) :
    Calls Tryd.prog 26 #[u] w (TextPost (wv a) w) := by
  obtain ⟨i0, hi, hz0, hz1, hz2⟩ := info_parts Tryd.infoU8
  have HTr := Lib.hid (trim_any u a w hu _ rfl)
  have HZ := Lib.hid (wv_range hu.2.1).2
  clear hu
  generalize wv a = z at *
  go_enter Tryd.func26, Tryd.ntmps26
  go_wp2_with fail
  refine (HTr.out).mono ?_; rintro e w1 ⟨u1, x0, rfl, hown, hd, ht, hzz, hm, hb1⟩
  have hx0 : ¬ x0.length = 0 := by
    intro h
    rw [List.length_eq_zero_iff.1 h, wv_nil] at hzz; omega
  have hx0b : ((x0.length : Int) == 0) = false := by simpa using hx0
  have HX := Lib.hid (And.intro hown (And.intro hd (And.intro ht (And.intro hzz hb1))))
  clear hx0
  obtain ⟨p, c, rfl⟩ := own_slice hown
  clear hown hd ht hzz hb1 HTr
  go_wp2_with fail
  go_loopg [3, 4] z.toNat (fun g rv dv wr => ∃ (r d : Value) (x ds : List Int), r = rv ∧ d = dv ∧ (wv x).toNat = g ∧ ds.length ≤ 40000000 ∧ Hid (TextRel w.heap.size z x ds r d w wr))
  case atStart => exact ⟨_, _, x0, [], rfl, rfl, by rw [HX.out.2.2.2.1], by simp, Lib.hid ⟨HX.out.1, HX.out.2.1, HX.out.2.2.1, by omega, World.ownsRow_nil _ _ _ _, by simp [Ten], by simp [v10, HX.out.2.2.2.1], HX.out.2.2.2.2⟩⟩
  case round =>
    obtain ⟨r, d, x, ds, rfl, rfl, hgk, hdb, hT⟩ := hrel
    obtain ⟨rp, rc, rfl⟩ := own_slice hT.out.1
    by_cases hx : 0 < x.length
    · have hxn : x ≠ [] := by intro e; subst e; simp at hx
      have hlen := (hT.out.len hxn HZ.out).1
      have hpos := (hT.out.len hxn HZ.out).2
      rcases own_cases hT.out.1 with ⟨_, hx0'⟩ | ⟨g, cap, hv, hr⟩
      · exact absurd hx0' hxn
      simp only [Value.slice.injEq] at hv
      obtain ⟨rfl, -, rfl⟩ := hv
      have hg := hr.facts.1
      have HDB := Lib.hid (dbw_any w.heap.size g rc x 1000000000 wr hr hT.out.2.1 (by have := hT.out.2.2.2.1; omega) (by decide) (by decide))
      have lx := hT.out.2.2.2.1
      have hp0 : 0 ≤ wv x % 1000000000 := by omega
      have hp1 : wv x % 1000000000 < 1000000000 := by omega
      clear hr
      go_wp2_with fail
      refine (HDB.out).mono ?_; rintro e w2 ⟨out, rfl, hr2, hd2, hl2, hv2, honly⟩
      have hb2 := honly.below (B := w.heap.size) hg
      have hdv2 := honly.row hT.out.2.2.2.2.1 (by
        rcases other_block' hT.out.1 hT.out.2.2.2.2.1 with h | h
        · rw [h]; simp
        · exact h)
      have HW := Lib.hid (hr2.wlist hd2 (by omega))
      have HS := Lib.hid (sig_any _ _ _ _ _ HW.out.1 (by omega))
      rw [hl2] at HS
      have HR := Lib.hid (And.intro hr2 (And.intro hl2 (And.intro hv2 (And.intro hdv2 (hT.out.2.2.2.2.2.2.2.trans (hb2.mono (Nat.le_refl _)))))))
      clear hr2 hd2 hl2 hv2 hdv2 hb2 honly HDB
      go_wp2_with fail
      refine (HS.out).mono ?_; rintro e w' ⟨u2, n, rfl, hc, rfl⟩
      have hw := hc.wlist HW.out
      have hC := Lib.hid (hT.out.chunk (hc.own HR.out.1) hw.1.2.1 hw.2.2 (by rw [List.length_take]; have := HR.out.2.1; omega) (hw.2.1.trans HR.out.2.2.1) HR.out.2.2.2.1 HR.out.2.2.2.2)
      have hval := Lib.hid (hw.2.1.trans HR.out.2.2.1)
      generalize out.take n = y at *
      generalize wv x % 1000000000 = P at *
      clear hc hw HW HR HS hT
      go_wp2_with fail
      have HL := Lib.hid (And.intro hlen la)
      clear hlen
      go_loopw [4, 5, 18] (fun dv pv i wr => ∃ (j : Nat) (d2 : Value) (ds2 : List Int) (q : Int), j ≤ 9 ∧ i = .int .i64 j ∧ pv = .int .u32 q ∧ 0 ≤ q ∧ q ≤ 999999999 ∧ d2 = dv ∧ Hid (ChunkRel w.heap.size z ds.length y ds2 q j u2 d2 w wr)) (fun _ _ i _ => 9 - (intOf i).toNat)
      case atStart => exact ⟨0, _, ds, P, by omega, rfl, rfl, by omega, by omega, rfl, hC⟩
      case round =>
        obtain ⟨j, d2, ds2, q, hj, rfl, rfl, q0, q1, rfl, hR⟩ := hrel
        clear hC
        by_cases hj9 : j < 9
        · have hsz := hR.out.2.2.2.2.2.2.2.2.2.2.size
          have hown := Lib.hid hR.out.2.2.2.2.1
          have hdl : (ds2.map (48 + ·)).length ≤ 1099511627776 := by
            have h1 := hR.out.2.2.2.2.2.2.1
            have h2 := HL.out.1
            have h3 := HL.out.2
            rw [List.length_map]; omega
          have hk3 : 0 ≤ q % 10 := by omega
          have hk4 : q % 10 ≤ 9 := by omega
          go_wp2_with (at_builtin; refine wpList_append_own _ rfl _ _ 74 rfl w.heap.size 5 i0 (.int .u8 0) 1 1 Tryd.underlying74 hi hz0 hz1 hz2 rfl (by decide) _ _ _ rfl (hown.out.alloc _) ⟨wr.heap.size, 0, none⟩ 1 1 [.int .u8 (48 + q % 10)] rfl rfl (cell_one_new _ _ _) (one_int _ _) (room63 (by omega)) (by omega) (by simp; omega) ?_; intro v' w3 hown' hgrow _)
          have hP := Lib.hid (hR.out.push hj9 hsz hown' hgrow)
          clear hown' hgrow hown hR hsz
          go_wp2_with fail
          go_roundw
          case rel => exact ⟨j + 1, v', _, q / 10, by omega, by go_num, rfl, by omega, by omega, rfl, hP⟩
          case measure => simp [intOf]; omega
        · obtain rfl : j = 9 := by omega
          have hE := Lib.hid hR.out.stop
          have hdb2 : ds2.length ≤ 40000000 := by have h1 := hR.out.2.2.2.2.2.2.1; have h2 := HL.out.1; have h3 := HL.out.2; omega
          clear hR
          go_wp2_with fail
          go_roundg (wv y).toNat
          case measure => have := hval.out; omega
          case rel => exact ⟨_, _, y, ds2, rfl, rfl, rfl, hdb2, hE⟩
    · have hx0 : x = [] := List.length_eq_zero_iff.1 (by omega)
      subst hx0
      have hzv : z = v10 ds := by have := hT.out.2.2.2.2.2.2.1; rw [this, wv_nil]; simp
      have hdn : ds ≠ [] := by intro e; subst e; simp [v10] at hzv; omega
      obtain ⟨g, cap, rfl, hr⟩ : ∃ g cap, d = .slice (some ⟨g, 0, none⟩) (ds.map (48 + ·)).length cap ∧ BRow wr w.heap.size g cap (ds.map (48 + ·)) := by
        have ho := hT.out.2.2.2.2.1
        rcases ho.2 with ⟨rfl, h0⟩ | ⟨g, cap, cur, rfl, _⟩
        · exact absurd (List.length_eq_zero_iff.1 (by simpa using h0)) hdn
        · exact ⟨g, cap, rfl, ho⟩
      have HBw := Lib.hid hT.out.2.2.2.2.2.2.2
      have HTen := Lib.hid hT.out.2.2.2.2.2.1
      have hln : (ds.map (48 + ·)).length = ds.length := List.length_map _
      rw [hln]
      have hcap : ds.length ≤ cap := by have := hr.facts.2.2.1; omega
      have hcap2 : cap ≤ 9223372036854775807 := by have := hr.facts.2.2.2.1; unfold maxLen at this; omega
      have HR := Lib.hid (And.intro hr (And.intro hzv (And.intro hdn hln)))
      clear hT hzv hdn hr hln
      go_wp2_with fail
      go_loopg [4] ds.length (fun k dv wr2 => ∃ n : Nat, n = k ∧ n ≤ ds.length ∧ dv = .slice (some ⟨g, 0, none⟩) n cap ∧ wr2 = wr ∧ Hid (z = v10 (ds.take n)))
      case atStart => exact ⟨_, rfl, Nat.le_refl _, rfl, rfl, Lib.hid (by rw [List.take_length]; exact HR.out.2.1)⟩
      case round =>
        obtain ⟨n, rfl, hn, rfl, rfl, hv⟩ := hrel
        have hn0 : n ≠ 0 := by
          intro e; subst e
          have := hv.out
          simp [v10] at this; omega
        obtain ⟨m, rfl⟩ : ∃ m, n = m + 1 := ⟨n - 1, by omega⟩
        have hts := take_snocD ds m (by omega)
        have htl : (ds.take m).length = m := by rw [List.length_take]; omega
        have hcell := (HR.out.1.facts.2.2.2.2 m (by have := HR.out.2.2.2; omega)).1
        have hmap : (ds.map (48 + ·)).getD m 0 = 48 + ds.getD m 0 := by
          have hm : m < ds.length := by omega
          simp [List.getD, hm]
        rw [hmap] at hcell
        have hd9 : 0 ≤ ds.getD m 0 ∧ ds.getD m 0 ≤ 9 := by
          have hm : m < ds.length := by omega
          have e : ds.getD m 0 = ds[m] := by simp [List.getD, hm]
          rw [e]; exact HTen.out _ (List.getElem_mem hm)
        have hV := Lib.hid (fun (h : ds.getD m 0 = 0) => (by have := hv.out; rw [hts, v10_snoc, h] at this; simpa using this : z = v10 (ds.take m)))
        have hD := Lib.hid (fun (h : ds.getD m 0 ≠ 0) => isDec_rev (HTen.out.take (m + 1)) (by rw [hts]; simp) (by rw [hts]; simpa [List.getD, htl] using h))
        clear hmap hts
        generalize ds.getD m 0 = dd at *
        by_cases h0 : dd = 0
        · subst h0
          have hV2 := Lib.hid (hV.out rfl)
          clear hV hD hv htl
          go_wp2_with fail
          go_roundg m
          case measure => omega
          case rel => exact ⟨m, rfl, by omega, rfl, rfl, hV2⟩
        · have hne : ¬ 48 + dd = 48 := by omega
          have hD2 := Lib.hid (hD.out h0)
          rw [← hv.out] at hD2
          have hrow := HR.out.1.cut (n := m + 1) (by have := HR.out.2.2.2; omega)
          have hrl : ((ds.map (48 + ·)).take (m + 1)).length = m + 1 := by rw [List.length_take, List.length_map]; omega
          have HRev := Lib.hid (rev_any w.heap.size g cap _ wr hrow (by omega))
          rw [hrl] at HRev
          clear hV hD hv htl hrow hrl
          go_wp2_with fail
          refine (HRev.out).mono ?_; rintro e w5 ⟨rfl, hrow5, hb5⟩
          have kc := Lib.hid (text_back w5 (ds.take (m + 1)) g cap w.heap.size (HTen.out.take _) (by rw [List.map_take]; exact hrow5))
          have htl : (ds.take (m + 1)).length = m + 1 := by rw [List.length_take]; omega
          rw [htl] at kc
          have hB5 := Lib.hid (HBw.out.trans (hb5.mono (Nat.le_refl _)))
          generalize (ds.take (m + 1)).reverse.map byteOf = l at *
          clear hrow5 hb5 HRev HR htl hcell
          have kc := kc.out
          go_wp2_with fail
          go_ret
          exact ⟨_, rfl, by simpa using hD2.out, hB5.out⟩
end Go.Proofs.YtpfcacjcikhamaaDoor
