/- Bytes of the call's own; the program's encoders. -/
import Derived.Test.YtdlebcjkokabjaaCodea
import Derived.Test.YtdlebcjkokabjaaFlof
import Derived.OwnWalk
import Derived.Deep.AppendLies
import Derived.Deep.RegionLawGrows
namespace Go.Proofs.Ytdlebcjkokabjaa
set_option maxRecDepth 100000
open Go.RowKit
set_option linter.unusedVariables false
theorem below_then {w W W' : World} (h : Below w.heap.size w W) (hb : Below W.heap.size W W') : Below w.heap.size w W' := h.trans (hb.mono h.size)
abbrev BOwn (w : World) (B : Nat) (v : Value) (l : List Int) : Prop := w.ownsRow B 5 1 v l.length (l.map (Value.int .u8))
theorem own_slice3 {w : World} {B E : Nat} {v : Value} {n : Nat} {xs : List Value} (h : w.ownsRow B E 1 v n xs) : ∃ a l c, v = .slice a l c := by
  obtain ⟨a, c, e⟩ := own_slice h
  exact ⟨a, n, c, e⟩
theorem own_ge {w : World} {B E : Nat} {v : Value} {n : Nat} {xs : List Value} (h : w.ownsRow B E 1 v n xs) : ∀ g, v.ownBlock = some g → B ≤ g := by
  intro g hg
  obtain ⟨_, h⟩ := h
  rcases h with ⟨rfl, _⟩ | ⟨g', cap, cur, rfl, h2, h3, h4⟩
  · simp [Value.ownBlock] at hg
  · simp [Value.ownBlock] at hg; subst hg; exact h2
theorem own_more {B : Nat} {w wr w1 : World} {o v' : Value} {l m : List Int} {ob : Obj} (hB : B ≤ wr.heap.size) (hnx : Below B w wr) (hown : BOwn wr B o l)
    (hown' : w1.ownsRow B 5 1 v' (l.length + m.length) (l.map (Value.int .u8) ++ m.map (Value.int .u8))) (hg : (wr.alloc ob).grownBy w1 o.ownBlock) : BOwn w1 B v' (l ++ m) ∧ Below B w w1 := by
  refine ⟨?_, (hnx.alloc hB ob).grown hg (by simp; omega) (fun k hk => (hown.lt k hk).1)⟩
  unfold BOwn
  rw [List.length_append, List.map_append]; exact hown'
theorem own_mono {w : World} {B B' : Nat} {v : Value} {l : List Int} (h : BOwn w B v l) (hb : B' ≤ B) : BOwn w B' v l := by
  refine ⟨h.1, ?_⟩
  rcases h.2 with h0 | ⟨g, cap, cur, h1, h2, h3⟩
  · exact .inl h0
  · exact .inr ⟨g, cap, cur, h1, Nat.le_trans hb h2, h3⟩
theorem own_form {w : World} {B : Nat} {v : Value} {l : List Int} (h : BOwn w B v l) (hn : 0 < l.length) : ∃ g cap, v = .slice (some ⟨g, 0, none⟩) l.length cap ∧ B ≤ g ∧ g < w.heap.size := by
  rcases h.2 with ⟨_, h0⟩ | ⟨g, cap, cur, hv, hb, hg, _⟩
  · omega
  · exact ⟨g, cap, hv, hb, (Array.getElem?_eq_some_iff.1 hg).1⟩
theorem own_set {w : World} {B g cap n : Nat} {l : List Int} (h : w.ownsRow B 5 1 (.slice (some ⟨g, 0, none⟩) n cap) n (l.map (Value.int .u8))) (j : Nat) (x : Int) :
    (w.setCell ⟨g, j, none⟩ (.int .u8 x)).ownsRow B 5 1 (.slice (some ⟨g, 0, none⟩) n cap) n ((l.set j x).map (Value.int .u8)) ∧ w.grownBy (w.setCell ⟨g, j, none⟩ (.int .u8 x)) (some g) := by
  have := World.ownsRow.stored h j (.int .u8 x)
  rw [List.map_set]; exact this
theorem own_get {w : World} {B g cap n : Nat} {l : List Int} (h : w.ownsRow B 5 1 (.slice (some ⟨g, 0, none⟩) n cap) n (l.map (Value.int .u8))) {j : Nat} (hj : j < l.length) :
    w.cell? ⟨g, j, none⟩ = some (.int .u8 (l.getD j 0)) ∧ w.frozen? ⟨g, j, none⟩ = false := by
  have h1 := h.1
  rw [List.length_map, Nat.mul_one] at h1
  refine ⟨?_, World.ownsRow.frozenAt h j⟩
  rw [World.ownsRow.cellAt h j (by omega), List.getElem?_map, List.getElem?_eq_getElem hj, List.getD, List.getElem?_eq_getElem hj]
  rfl
theorem own1 (w : World) (B : Nat) (x : Int) (hB : B ≤ w.heap.size) : BOwn (w.alloc (.cells #[.int .u8 x] 5)) B (.slice (some ⟨w.heap.size, 0, none⟩) 1 1) [x] :=
  ⟨by simp, .inr ⟨w.heap.size, 1, _, rfl, hB, heap_alloc_new w _, by simp, by decide, by simp, by simp⟩⟩
theorem own0 (w : World) (B : Nat) : BOwn w B (.slice none 0 0) [] := ⟨by simp, .inl ⟨rfl, rfl⟩⟩
theorem Try.infoU8 : (Try.prog.info? 5).map (fun i => (i.zero, i.size, i.bytes)) = some (some (.int .u8 0), 1, 1) := by kernel_rfl
section
variable {P : Program} (w : World)
theorem run_append_nil (base : Nat) (t ty e : TypeId) (i : TypeInfo) (size : Nat) (ht : P.underlying t = some (.slice e)) (hi : P.info? e = some i)
    (v : Value) (n : Nat) (xs : List Value) (hown : w.ownsRow base e size v n xs) (c : Nat) : (Builtin.append_ #[t, t] ty #[v, .slice none 0 c]).run P w = .ok v w := by
  rcases hown.2 with ⟨rfl, rfl⟩ | ⟨g, cap, cur, rfl, _, _, hnc, _⟩
  · simp [Builtin.append_, run_underlying ht, sizeOf, typeInfo, hi, Builtin.lenOf, Builtin.firstCells]
  · simp [Builtin.append_, run_underlying ht, sizeOf, typeInfo, hi, Builtin.lenOf, Builtin.firstCells, hnc, storeCells]
/-- An append of integers that are read elsewhere (nil and empty among them) to a row of the call's own. -/
theorem run_append_ints (base : Nat) (t ty e : TypeId) (i : TypeInfo) (z : Value) (bytes : Nat) (ht : P.underlying t = some (.slice e)) (hi : P.info? e = some i) (hz : i.zero = some z) (hsize : i.size = 1) (hby : i.bytes = bytes) (hzs : z.cells.size = 1)
    (k : IntKind) (v v2 : Value) (zs ns : List Int) (hown : w.ownsRow base e 1 v zs.length (zs.map (Value.int k))) (hv2 : Ints k w v2 ns) (h63 : zs.length + ns.length ≤ maxLen) (hbytes : (zs.length + ns.length) * bytes ≤ 140737488355328) (hbase : base ≤ w.heap.size) :
    ∃ v' w', (Builtin.append_ #[t, t] ty #[v, v2]).run P w = .ok v' w' ∧ w'.ownsRow base e 1 v' (zs ++ ns).length ((zs ++ ns).map (Value.int k)) ∧ w.grownBy w' v.ownBlock := by
  obtain ⟨a, cap, rfl, hc, ha⟩ := hv2
  have one : ∀ u ∈ ns.map (Value.int k), u.oneCell' = true := by
    intro u hu; obtain ⟨x, _, rfl⟩ := List.mem_map.1 hu; rfl
  have fin : ∀ (v' : Value) (w' : World), w'.ownsRow base e 1 v' (zs.length + ns.length) (zs.map (Value.int k) ++ ns.map (Value.int k)) → w'.ownsRow base e 1 v' (zs ++ ns).length ((zs ++ ns).map (Value.int k)) := fun v' w' h => by
    simpa using h
  cases a with
  | none =>
    have hn : ns = [] := by
      rcases ha with h | ⟨b, off, h, _⟩
      · exact h
      · cases h
    subst hn
    exact ⟨v, w, run_append_nil w base t ty e i 1 ht hi v _ _ hown cap, fin v w (by simpa using hown), World.grownBy.refl w _⟩
  | some ad =>
    have hnews : ∀ j u, (ns.map (Value.int k))[j]? = some u → w.cell? (ad.add j) = some u := fun j u hj => by
      rcases ha with h | ⟨b, off, h, _, hcell⟩
      · subst h; simp at hj
      · simp only [Option.some.injEq] at h
        subst h
        rw [List.getElem?_map] at hj
        obtain ⟨x, hx, rfl⟩ := Option.map_eq_some_iff.1 hj
        have hl := (List.getElem?_eq_some_iff.1 hx).1
        have hh := hcell j hl
        have e1 : ns.getD j 0 = x := by simp [List.getD, hx]
        rw [e1] at hh
        by_cases h0 : j = 0
        · subst h0; simpa [Addr.add] using hh
        · simpa [Addr.add, h0] using hh
    obtain ⟨v', w', hrun, r1, r2, _⟩ := run_append_own (P := P) w base t ty e i z 1 bytes ht hi hz hsize hby hzs (by omega) v zs.length _ hown ad ns.length cap (ns.map (Value.int k)) (by simp) hnews one h63 hbytes hbase
    exact ⟨v', w', hrun, fin v' w' r1, r2⟩
/-- An append of integers that are read elsewhere, in a plain region, whatever the guard, where it says yes. -/
theorem wpList_append_want {ops : Array Oper} {rest : List Oper} {o : Oper} {a : Act} {Q : Exit → Act → World → Prop} (hw : Region.wanted o (yielded ops a.tmps) = true) (s x : Operand) (t : TypeId)
    (ho : o.op = .call { callee := .builtin .append, args := #[s, x], argTypes := #[t, t] })
    (base : Nat) (e : TypeId) (i : TypeInfo) (z : Value) (bytes : Nat) (ht : P.underlying t = some (.slice e)) (hi : P.info? e = some i) (hz : i.zero = some z) (hsize : i.size = 1) (hby : i.bytes = bytes) (hzs : z.cells.size = 1)
    (k : IntKind) (v v2 : Value) (zs ns : List Int) (hs : a.eval s = v) (hx : a.eval x = v2) (hown : w.ownsRow base e 1 v zs.length (zs.map (Value.int k))) (hv2 : Ints k w v2 ns) (h63 : zs.length + ns.length ≤ maxLen) (hbytes : (zs.length + ns.length) * bytes ≤ 140737488355328) (hbase : base ≤ w.heap.size)
    (h : ∀ v' w', w'.ownsRow base e 1 v' (zs ++ ns).length ((zs ++ ns).map (Value.int k)) → w.grownBy w' v.ownBlock → wpList P ops Q rest (a.put o.dst v') w') : wpList P ops Q (o :: rest) a w :=
  BigFrame.wpList_want hw fun _ hK => by
    obtain ⟨v', w', hrun, r1, r2⟩ := run_append_ints (P := P) w base t o.type e i z bytes ht hi hz hsize hby hzs k v v2 zs ns hown hv2 h63 hbytes hbase
    unfold Oper.wp
    simp [execOp, ho, resolve, invoke, builtin, hs, hx, hrun, Result.andThen]
    exact hK _ _ (h v' w' r1 r2)
theorem step_append_ints {ops : Array Oper} {o : Oper} {a : Act} {K : Act → World → Prop} {Q : Exit → Act → World → Prop} {E : Prop} (hgd : o.guard = none) (s x : Operand) (t : TypeId)
    (ho : o.op = .call { callee := .builtin .append, args := #[s, x], argTypes := #[t, t] })
    (base : Nat) (e : TypeId) (i : TypeInfo) (z : Value) (bytes : Nat) (ht : P.underlying t = some (.slice e)) (hi : P.info? e = some i) (hz : i.zero = some z) (hsize : i.size = 1) (hby : i.bytes = bytes) (hzs : z.cells.size = 1)
    (k : IntKind) (v v2 : Value) (zs ns : List Int) (hs : a.eval s = v) (hx : a.eval x = v2) (hown : w.ownsRow base e 1 v zs.length (zs.map (Value.int k))) (hv2 : Ints k w v2 ns) (h63 : zs.length + ns.length ≤ maxLen) (hbytes : (zs.length + ns.length) * bytes ≤ 140737488355328) (hbase : base ≤ w.heap.size)
    (h : ∀ v' w', w'.ownsRow base e 1 v' (zs ++ ns).length ((zs ++ ns).map (Value.int k)) → w.grownBy w' v.ownBlock → K (a.put o.dst v') w') :
    if Region.wanted o (yielded ops a.tmps) = true then Oper.wp P o a w K Q else E := by
  have hw : Region.wanted o (yielded ops a.tmps) = true := by simp [Region.wanted, hgd]
  rw [if_pos hw]
  obtain ⟨v', w', hrun, r1, r2⟩ := run_append_ints (P := P) w base t o.type e i z bytes ht hi hz hsize hby hzs k v v2 zs ns hown hv2 h63 hbytes hbase
  unfold Oper.wp
  simp [execOp, ho, resolve, invoke, builtin, hs, hx, hrun, Result.andThen]
  exact h v' w' r1 r2
end
theorem own_grown {B : Nat} {w wr w1 : World} {o : Value} {l : List Int} {ob : Obj} (hB : B ≤ wr.heap.size) (hnx : Below B w wr) (hown : BOwn wr B o l) (hg : (wr.alloc ob).grownBy w1 o.ownBlock) : Below B w w1 :=
  (hnx.alloc hB ob).grown hg (by simp; omega) (fun k hk => (hown.lt k hk).1)
theorem lit_grown {w w2 : World} {o : Obj} (hg : (w.alloc o).grownBy w2 (some w.heap.size)) : Below w.heap.size w w2 :=
  (below_one w o).grown hg (by simp) (fun k hk => by have e : w.heap.size = k := Option.some.inj hk; omega)
def ofS (s : ByteArray) : List Int := s.data.toList.map fun c => (c.toNat : Int)
theorem ofS_len (s : ByteArray) : (ofS s).length = s.size := by simp [ofS]
theorem ofS_bt (s : ByteArray) : Bt (ofS s) := fun x hx => by
  unfold ofS at hx
  obtain ⟨c, -, rfl⟩ := List.mem_map.1 hx
  have := UInt8.toNat_lt c
  omega
theorem ofS_take (s : ByteArray) (k : Nat) (h : k < s.size) : (ofS s).take (k + 1) = (ofS s).take k ++ [(s[k].toNat : Int)] := by
  have hl : k < (ofS s).length := by rw [ofS_len]; exact h
  rw [List.take_succ_eq_append_getElem hl]
  congr 2
  simp [ofS]
  rfl
/-- What a function that makes bytes returns. -/
def BytesB (B : Nat) (w : World) (l : List Int) (e : Ending) (w' : World) : Prop := (∃ v, e = .returned v ∧ BOwn w' B v l) ∧ Below B w w'
set_option maxHeartbeats 4000000 in
theorem plow_any (v : Value) (l : List Int) (x n B : Nat) (w : World) (h : BOwn w B v l) (hB : B ≤ w.heap.size) (hl : l.length ≤ 1000) (hx : x < 18446744073709551616) (hn : n ≤ 8) :
    Calls Try.prog 83 #[v, .int .u64 x, .int .i64 n] w (BytesB B w (l ++ bigN x n)) := by
  obtain ⟨i0, hi, hz0, hz1, hz2⟩ := info_parts Try.infoU8
  have HO := Lib.hid h
  have HL := Lib.hid (bigN_len x n)
  have HT := Lib.hid (bigN_take x n)
  have HLl := Lib.hid hl
  obtain ⟨a, len, cap, rfl⟩ := own_slice3 h
  clear h hl
  go_enter Try.func83, Try.ntmps83
  go_wp2_with fail
  go_loopw [0, 9] (fun bv i wr => ∃ k : Nat, k ≤ n ∧ i = .int .i64 k ∧ Hid (BOwn wr B bv (l ++ (bigN x n).take k)) ∧ Hid (Below B w wr)) (fun _ i _ => n - (intOf i).toNat)
  case atStart => exact ⟨0, Nat.zero_le _, rfl, Lib.hid (by simpa using HO.out), Lib.hid (Below.refl _ _)⟩
  case round =>
    obtain ⟨k, hk, rfl, hown, hb⟩ := hrel
    by_cases hlt : k < n
    · have hT := Lib.hid (HT.out k hlt)
      obtain ⟨j, hj⟩ : ∃ j, n - 1 - k = j := ⟨_, rfl⟩
      rw [hj] at hT
      have i1 : (k : Int) < (n : Int) := by omega
      have i5 : IntKind.i64.wrap ((n : Int) - 1) = (n : Int) - 1 := IntWalk.i64_in _ (by omega)
      have i6 : IntKind.i64.wrap ((n : Int) - 1 - k) = (j : Int) := by rw [IntWalk.i64_in _ (by omega)]; omega
      have i7 : IntKind.i64.wrap (8 * (j : Int)) = 8 * (j : Int) := IntWalk.i64_in _ (by omega)
      have i8 : 8 * (j : Int) < 64 := by omega
      have i9 : (0 : Int) ≤ 8 * (j : Int) := by omega
      have hln : (l ++ (bigN x n).take k).length ≤ 100000 := by have := HLl.out; have := HL.out; simp; omega
      have hm : (l ++ (bigN x n).take k).length + 1 ≤ maxLen := by unfold maxLen; omega
      have hsz := Nat.le_trans hB hb.out.size
      have hc := Lib.hid (show (x : Int) / 2 ^ (8 * j) % 256 = ((x / 256 ^ j % 256 : Nat) : Int) by rw [pow_8]; push_cast; rfl)
      obtain ⟨pa, pl, pc, rfl⟩ := own_slice3 hown.out
      have hob := hown.out
      go_wp2_with (at_builtin; refine wpList_append_own _ rfl _ _ 42 rfl B 5 i0 (.int .u8 0) 1 1 Try.underlying42 hi hz0 hz1 hz2 rfl (by decide) _ _ _ rfl (hob.alloc _) ⟨wr.heap.size, 0, none⟩ 1 1 [.int .u8 ((x : Int) / 2 ^ (8 * j) % 256)] rfl rfl (World.news_of_block (heap_alloc_new wr _)) (by simp [Value.oneCell']) hm (by omega) (by simp; omega) ?_; intro v' w1 hown' hgrow _)
      have hP := own_more (m := [(x : Int) / 2 ^ (8 * j) % 256]) hsz hb.out hob hown' hgrow
      rw [hc.out, List.append_assoc, ← hT.out] at hP
      have HO2 := Lib.hid hP.1
      have HB2 := Lib.hid hP.2
      clear hown' hgrow hP hob hc
      go_wp2_with fail
      go_roundw
      case rel => exact ⟨k + 1, by omega, by go_num, HO2, HB2⟩
      case measure => simp [intOf]; omega
    · obtain rfl : k = n := by omega
      obtain ⟨pa, pl, pc, rfl⟩ := own_slice3 hown.out
      have e : (bigN x k).take k = bigN x k := List.take_of_length_le (by rw [HL.out]; exact Nat.le_refl _)
      have hob := Lib.hid (show BOwn wr B (.slice pa pl pc) (l ++ bigN x k) by rw [← e]; exact hown.out)
      clear hown e
      have i1 : ¬ ((k : Nat) : Int) < (k : Nat) := by omega
      go_wp2_with fail
      go_ret
      exact ⟨⟨_, rfl, hob.out⟩, hb.out⟩
theorem bytesOf_any (x : Nat) (w : World) (hx : x < 18446744073709551616) : Calls Try.prog 82 #[.int .u64 x] w fun e w' => e = .returned (.int .i64 (bytesN x)) ∧ w = w' := by
  have H := Lib.hid (len64_any (x : Int) w (by omega) (by omega))
  have hb := Lib.bitLen_le x 64 (by decide) hx
  have e : (x : Int).toNat = x := by omega
  rw [e] at H
  have hR : (bytesN x : Int) = ((Lib.bitLen x : Int) + 7) / 8 := by unfold bytesN; omega
  have hR := Lib.hid hR
  generalize bytesN x = r at *
  generalize Lib.bitLen x = b at *
  have i1 : IntKind.i64.wrap ((b : Int) + 8) = (b : Int) + 8 := IntWalk.i64_in _ (by omega)
  have i2 : IntKind.i64.wrap ((b : Int) + 8 - 1) = (b : Int) + 7 := by rw [IntWalk.i64_in _ (by omega)]; omega
  go_enter Try.func82, Try.ntmps82
  go_wp2_with fail
  refine (H.out).mono ?_; rintro e w' ⟨rfl, rfl⟩
  go_wp2_with fail
  go_ret
  exact ⟨ret_int (by rw [hR.out]), rfl⟩
def BytesP (w : World) (l : List Int) : Ending → World → Prop := BytesB w.heap.size w l
set_option maxHeartbeats 2000000 in
theorem pU_any (x : Nat) (w : World) (hx : x < 18446744073709551616) : Calls Try.prog 64 #[.int .u64 x] w (BytesP w (encU x)) := by
  have HN := Lib.hid (bytesOf_any x w hx)
  have hn := bytesN_le x hx
  have hR := Lib.hid (show encU x = [(bytesN x : Int)] ++ bigN x (bytesN x) from rfl)
  generalize bytesN x = n at *
  have HL := Lib.hid (plow_any _ _ x n w.heap.size _ (own1 w w.heap.size (n : Int) (Nat.le_refl _)) (by simp) (by simp) hx hn)
  have hu : IntKind.u8.wrap (n : Int) = n := by rw [IntKind.wrap_u8]; omega
  go_enter Try.func64, Try.ntmps64
  go_wp2_with fail
  refine (HN.out).mono ?_; rintro e w1 ⟨rfl, rfl⟩
  go_wp2_with fail
  refine (HL.out).mono ?_; rintro e w1 ⟨⟨v, rfl, ho⟩, hb⟩
  have HO := Lib.hid ho
  have HB := Lib.hid (Below.trans (below_one w _) hb)
  clear ho hb
  go_wp2_with fail
  go_ret
  exact ⟨⟨v, rfl, by rw [hR.out]; exact HO.out⟩, HB.out⟩
end Go.Proofs.Ytdlebcjkokabjaa
