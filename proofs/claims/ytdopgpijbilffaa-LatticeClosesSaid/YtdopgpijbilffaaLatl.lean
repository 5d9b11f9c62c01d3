/- Layer 17: the reference's lists. -/
import Derived.Test.YtdopgpijbilffaaLatk
import Derived.Deep.RegionHeld3
import Derived.Deep.RegionLawGrows
import Derived.OwnWalk
namespace Go.Proofs.Ytdopgpijbilffaa
set_option maxRecDepth 100000
open Go.RowKit
set_option linter.unusedVariables false
section
variable {P : Program} (w : World)
theorem app17_nil_run (base : Nat) (t ty e : TypeId) (i : TypeInfo) (size : Nat) (ht : P.underlying t = some (.slice e)) (hi : P.info? e = some i)
    (v : Value) (n : Nat) (xs : List Value) (hown : w.ownsRow base e size v n xs) (c : Nat) : (Builtin.append_ #[t, t] ty #[v, .slice none 0 c]).run P w = .ok v w := by
  rcases hown.2 with ⟨rfl, rfl⟩ | ⟨g, cap, cur, rfl, _, _, hnc, _⟩
  · simp [Builtin.append_, run_underlying ht, sizeOf, typeInfo, hi, Builtin.lenOf, Builtin.firstCells]
  · simp [Builtin.append_, run_underlying ht, sizeOf, typeInfo, hi, Builtin.lenOf, Builtin.firstCells, hnc, storeCells]
/-- An append of integers that are read elsewhere (nil and empty among them) to a row of the call's own. -/
theorem app17_run (base : Nat) (t ty e : TypeId) (i : TypeInfo) (z : Value) (bytes : Nat) (ht : P.underlying t = some (.slice e)) (hi : P.info? e = some i) (hz : i.zero = some z) (hsize : i.size = 1) (hby : i.bytes = bytes) (hzs : z.cells.size = 1)
    (k : IntKind) (v v2 : Value) (zs ns : List Int) (hown : w.ownsRow base e 1 v zs.length (zs.map (Value.int k))) (hv2 : Ints k w v2 ns) (h63 : zs.length + ns.length ≤ maxLen) (hbytes : (zs.length + ns.length) * bytes ≤ 140737488355328) (hbase : base ≤ w.heap.size) :
    ∃ v' w', (Builtin.append_ #[t, t] ty #[v, v2]).run P w = .ok v' w' ∧ w'.ownsRow base e 1 v' (zs ++ ns).length ((zs ++ ns).map (Value.int k)) ∧ w.grownBy w' v.ownBlock := by
  obtain ⟨a, cap, rfl, hc, ha⟩ := hv2
  have one : ∀ u ∈ ns.map (Value.int k), u.oneCell' = true := by
    intro u hu; obtain ⟨x, _, rfl⟩ := List.mem_map.1 hu; rfl
  have fin : ∀ (v' : Value) (w' : World), w'.ownsRow base e 1 v' (zs.length + ns.length) (zs.map (Value.int k) ++ ns.map (Value.int k)) → w'.ownsRow base e 1 v' (zs ++ ns).length ((zs ++ ns).map (Value.int k)) := fun v' w' h => by
    simpa using h
  cases a with
  | none =>
    have hn : ns = [] := by
      rcases ha with h | ⟨b, off, h, _⟩
      · exact h
      · cases h
    subst hn
    exact ⟨v, w, app17_nil_run w base t ty e i 1 ht hi v _ _ hown cap, fin v w (by simpa using hown), World.grownBy.refl w _⟩
  | some ad =>
    have hnews : ∀ j u, (ns.map (Value.int k))[j]? = some u → w.cell? (ad.add j) = some u := fun j u hj => by
      rcases ha with h | ⟨b, off, h, _, hcell⟩
      · subst h; simp at hj
      · simp only [Option.some.injEq] at h
        subst h
        rw [List.getElem?_map] at hj
        obtain ⟨x, hx, rfl⟩ := Option.map_eq_some_iff.1 hj
        have hl := (List.getElem?_eq_some_iff.1 hx).1
        have hh := hcell j hl
        have e1 : ns.getD j 0 = x := by simp [List.getD, hx]
        rw [e1] at hh
        by_cases h0 : j = 0
        · subst h0; simpa [Addr.add] using hh
        · simpa [Addr.add, h0] using hh
    obtain ⟨v', w', hrun, r1, r2, _⟩ := run_append_own (P := P) w base t ty e i z 1 bytes ht hi hz hsize hby hzs (by omega) v zs.length _ hown ad ns.length cap (ns.map (Value.int k)) (by simp) hnews one h63 hbytes hbase
    exact ⟨v', w', hrun, fin v' w' r1, r2⟩
/-- An append of integers that are read elsewhere, in a plain region, whatever the guard, where it says yes. -/
theorem wpList_append17 {ops : Array Oper} {rest : List Oper} {o : Oper} {a : Act} {Q : Exit → Act → World → Prop} (hw : Region.wanted o (yielded ops a.tmps) = true) (s x : Operand) (t : TypeId)
    (ho : o.op = .call { callee := .builtin .append, args := #[s, x], argTypes := #[t, t] })
    (base : Nat) (e : TypeId) (i : TypeInfo) (z : Value) (bytes : Nat) (ht : P.underlying t = some (.slice e)) (hi : P.info? e = some i) (hz : i.zero = some z) (hsize : i.size = 1) (hby : i.bytes = bytes) (hzs : z.cells.size = 1)
    (k : IntKind) (v v2 : Value) (zs ns : List Int) (hs : a.eval s = v) (hx : a.eval x = v2) (hown : w.ownsRow base e 1 v zs.length (zs.map (Value.int k))) (hv2 : Ints k w v2 ns) (h63 : zs.length + ns.length ≤ maxLen) (hbytes : (zs.length + ns.length) * bytes ≤ 140737488355328) (hbase : base ≤ w.heap.size)
    (h : ∀ v' w', w'.ownsRow base e 1 v' (zs ++ ns).length ((zs ++ ns).map (Value.int k)) → w.grownBy w' v.ownBlock → wpList P ops Q rest (a.put o.dst v') w') : wpList P ops Q (o :: rest) a w :=
  BigFrame.wpList_want hw fun _ hK => by
    obtain ⟨v', w', hrun, r1, r2⟩ := app17_run (P := P) w base t o.type e i z bytes ht hi hz hsize hby hzs k v v2 zs ns hown hv2 h63 hbytes hbase
    unfold Oper.wp
    simp [execOp, ho, resolve, invoke, builtin, hs, hx, hrun, Result.andThen]
    exact hK _ _ (h v' w' r1 r2)
theorem app17_step {ops : Array Oper} {o : Oper} {a : Act} {K : Act → World → Prop} {Q : Exit → Act → World → Prop} {E : Prop} (hgd : o.guard = none) (s x : Operand) (t : TypeId)
    (ho : o.op = .call { callee := .builtin .append, args := #[s, x], argTypes := #[t, t] })
    (base : Nat) (e : TypeId) (i : TypeInfo) (z : Value) (bytes : Nat) (ht : P.underlying t = some (.slice e)) (hi : P.info? e = some i) (hz : i.zero = some z) (hsize : i.size = 1) (hby : i.bytes = bytes) (hzs : z.cells.size = 1)
    (k : IntKind) (v v2 : Value) (zs ns : List Int) (hs : a.eval s = v) (hx : a.eval x = v2) (hown : w.ownsRow base e 1 v zs.length (zs.map (Value.int k))) (hv2 : Ints k w v2 ns) (h63 : zs.length + ns.length ≤ maxLen) (hbytes : (zs.length + ns.length) * bytes ≤ 140737488355328) (hbase : base ≤ w.heap.size)
    (h : ∀ v' w', w'.ownsRow base e 1 v' (zs ++ ns).length ((zs ++ ns).map (Value.int k)) → w.grownBy w' v.ownBlock → K (a.put o.dst v') w') :
    if Region.wanted o (yielded ops a.tmps) = true then Oper.wp P o a w K Q else E := by
  have hw : Region.wanted o (yielded ops a.tmps) = true := by simp [Region.wanted, hgd]
  rw [if_pos hw]
  obtain ⟨v', w', hrun, r1, r2⟩ := app17_run (P := P) w base t o.type e i z bytes ht hi hz hsize hby hzs k v v2 zs ns hown hv2 h63 hbytes hbase
  unfold Oper.wp
  simp [execOp, ho, resolve, invoke, builtin, hs, hx, hrun, Result.andThen]
  exact h v' w' r1 r2
end
theorem lit_more17 {w w2 : World} {o : Obj} (hg : (w.alloc o).grownBy w2 (some w.heap.size)) : Below w.heap.size w w2 :=
  (below_one w o).grown hg (by simp) (fun k hk => by have e : w.heap.size = k := Option.some.inj hk; omega)

set_option maxHeartbeats 2000000 in
theorem masks17_any (u v : Value) (l : List Nat) (w : World) (hu : Msk w u l) (hv : Msk w v l) (hl : l.length ≤ 1000000) :
    Calls Try.prog 13 #[u, v] w fun e w' => e = .returned (.bool true) ∧ Below w.heap.size w w' := by
  have HU := Lib.hid hu
  have HV := Lib.hid hv
  obtain ⟨a, c, rfl⟩ := hu.len
  obtain ⟨b, d, rfl⟩ := hv.len
  clear hu hv
  go_enter Try.func13, Try.ntmps13
  go_wp2_with fail
  go_loopw [5] (fun iv wr => ∃ t : Nat, t ≤ l.length ∧ iv = .int .i64 t ∧ Hid (Drew w wr)) (fun iv _ => l.length - (intOf iv).toNat)
  case atStart => exact ⟨0, Nat.zero_le _, rfl, Lib.hid (Drew.refl _)⟩
  case round =>
    obtain ⟨t, ht, rfl, HB⟩ := hrel
    by_cases h : t < l.length
    · have h' : (t : Int) < (l.length : Int) := by omega
      obtain ⟨bb, o, rfl, hc⟩ := Msk.at (HU.out.below HB.out.below) h
      obtain ⟨bb2, o2, rfl, hc2⟩ := Msk.at (HV.out.below HB.out.below) h
      have HD := Lib.hid (fun n => HB.out.then (show Drew wr (wr.drewN n) from ⟨n, rfl⟩))
      generalize l.getD t 0 = x at *
      go_wp2_with fail
      go_quiet (fail)
      have HE := Lib.hid (HD.out nq)
      go_wp2
      go_roundw
      case rel => exact ⟨t + 1, by omega, by go_num, HE⟩
      case measure => simp [intOf]; omega
    · have e : t = l.length := by omega
      subst e
      have h' : ¬ (l.length : Int) < (l.length : Int) := by omega
      go_wp2_with fail
      go_ret
      exact ⟨rfl, HB.out.below⟩
set_option maxHeartbeats 2000000 in
theorem ints17_any (w : World) (u v : Value) (l : List Int) (hu : Ints .i64 w u l) (hv : Ints .i64 w v l) (hl : l.length ≤ 1000000) :
    Calls Try.prog 24 #[u, v] w fun e w' => e = .returned (.bool true) ∧ Below w.heap.size w w' := by
  have HU := Lib.hid hu
  have HV := Lib.hid hv
  obtain ⟨a, c, rfl, -⟩ := hu
  obtain ⟨b, d, rfl, -⟩ := hv
  go_enter Try.func24, Try.ntmps24
  go_wp2_with fail
  go_loopw [5] (fun iv wr => ∃ t : Nat, t ≤ l.length ∧ iv = .int .i64 t ∧ Hid (Drew w wr)) (fun iv _ => l.length - (intOf iv).toNat)
  case atStart => exact ⟨0, Nat.zero_le _, rfl, Lib.hid (Drew.refl _)⟩
  case round =>
    obtain ⟨t, ht, rfl, HB⟩ := hrel
    by_cases h : t < l.length
    · have h' : (t : Int) < (l.length : Int) := by omega
      obtain ⟨bb, o, rfl, -, hc⟩ := (HU.out.below HB.out.below).cell h
      obtain ⟨bb2, o2, rfl, -, hc2⟩ := (HV.out.below HB.out.below).cell h
      have HD := Lib.hid (fun n => HB.out.then (show Drew wr (wr.drewN n) from ⟨n, rfl⟩))
      generalize l.getD t 0 = x at *
      go_wp2_with fail
      go_quiet (fail)
      have HE := Lib.hid (HD.out nq)
      go_wp2
      go_roundw
      case rel => exact ⟨t + 1, by omega, by go_num, HE⟩
      case measure => simp [intOf]; omega
    · have e : t = l.length := by omega
      subst e
      have h' : ¬ (l.length : Int) < (l.length : Int) := by omega
      go_wp2_with fail
      go_ret
      exact ⟨rfl, HB.out.below⟩
theorem getD_mem17 {l : List Nat} {k : Nat} (hk : k < l.length) : l.getD k 0 ∈ l := by
  have e : l.getD k 0 = l[k] := by simp [List.getD, hk]
  rw [e]
  exact List.getElem_mem hk
set_option maxHeartbeats 2000000 in
theorem rhas17_any (w : World) (v : Value) (l : List Nat) (a : Nat) (h : Msk w v l) (hl : l.length ≤ 1000000) :
    Calls Try.prog 43 #[v, .int .u32 a] w fun e w' => e = .returned (.bool (hasN l a)) ∧ w = w' := by
  have HV := Lib.hid h
  obtain ⟨p, c, rfl⟩ := h.len
  have HY := Lib.hid (show (∃ k, k < l.length ∧ l.getD k 0 = a) → hasN l a = true from fun ⟨k, hk, e⟩ => hasN_iff.2 (e ▸ getD_mem17 hk))
  have HN := Lib.hid (show (∀ k, k < l.length → l.getD k 0 ≠ a) → hasN l a = false from fun h => by
    by_cases q : hasN l a = true
    · obtain ⟨k, hk, e⟩ := List.getElem_of_mem (hasN_iff.1 q)
      exact absurd (by simp [List.getD, hk, e]) (h k hk)
    · exact eq_false_of_ne_true q)
  generalize hasN l a = r at *
  clear h
  go_enter Try.func43, Try.ntmps43
  go_wp2_with fail
  go_loopw [5] (fun iv wr => ∃ t : Nat, t ≤ l.length ∧ iv = .int .i64 t ∧ wr = w ∧ Hid (∀ j, j < t → l.getD j 0 ≠ a)) (fun iv _ => l.length - (intOf iv).toNat)
  case atStart => exact ⟨0, Nat.zero_le _, rfl, by trivial, Lib.hid (fun j hj => by omega)⟩
  case round =>
    obtain ⟨t, ht, rfl, rfl, HJ⟩ := hrel
    by_cases h : t < l.length
    · have h' : (t : Int) < (l.length : Int) := by omega
      obtain ⟨bb, o, rfl, hc⟩ := Msk.at HV.out h
      by_cases hx : l.getD t 0 = a
      · have hr := HY.out ⟨t, h, hx⟩
        subst hr
        have hx' : (((l.getD t 0 : Nat) : Int) == (a : Int)) = true := by rw [hx]; exact beq_self_eq_true _
        clear hx
        generalize l.getD t 0 = x at *
        go_wp2_with fail
        go_ret
        exact ⟨rfl, rfl⟩
      · have hx' : (((l.getD t 0 : Nat) : Int) == (a : Int)) = false := by rw [beq_eq_false_iff_ne]; omega
        have HJ2 := Lib.hid (fun j (hj : j < t + 1) => if e : j = t then e ▸ hx else HJ.out j (by omega))
        clear hx
        generalize hq : l.getD t 0 = x at *
        clear hq
        go_wp2_with fail
        go_roundw
        case rel => exact ⟨t + 1, by omega, by go_num, by trivial, HJ2⟩
        case measure => simp [intOf]; omega
    · have e : t = l.length := by omega
      subst e
      have h' : ¬ (l.length : Int) < (l.length : Int) := by omega
      have hr := HN.out HJ.out
      subst hr
      clear HJ
      go_wp2_with fail
      go_ret
      exact ⟨rfl, rfl⟩
set_option maxHeartbeats 4000000 in
theorem rcom17_any (w : World) (v : Value) (l : List Nat) (a : Nat) (h : Msk w v l) (hb : Bd l) (ha : a < 4294967296) (hl : l.length ≤ 1000000) :
    Calls Try.prog 21 #[v, .int .u32 a] w fun e w' => e = .returned (.bool (comN l a)) ∧ w = w' := by
  have HV := Lib.hid h
  obtain ⟨p, c, rfl⟩ := h.len
  have HS := Lib.hid (fun k => rsub17_any w a (l.getD k 0) ha (hb.getD k))
  have HC := Lib.hid (fun x k (hx : x < 4294967296) => rcommon_any w x (l.getD k 0) hx (hb.getD k))
  have HT := Lib.hid (fun k (hk : k < l.length) => @take_next l k hk)
  have HAl := Lib.hid (fun m => all_lt a m)
  have HR := Lib.hid (show comN l a = (someN a l && allN a l == a) from rfl)
  clear h hb
  go_enter Try.func21, Try.ntmps21
  go_wp2_with fail
  go_loopw [7, 5, 6] (fun iv sv av wr => ∃ (t : Nat) (s : Bool) (x : Nat), t ≤ l.length ∧ iv = .int .i64 t ∧ sv = .bool s ∧ av = .int .u32 x ∧ x < 4294967296 ∧ wr = w ∧ Hid (s = someN a (l.take t) ∧ x = allN a (l.take t))) (fun iv _ _ _ => l.length - (intOf iv).toNat)
  case atStart => exact ⟨0, false, 4294967295, Nat.zero_le _, rfl, rfl, rfl, by decide, by trivial, Lib.hid ⟨by rw [List.take_zero]; rfl, by rw [List.take_zero]; rfl⟩⟩
  case round =>
    obtain ⟨t, s, x, ht, rfl, rfl, rfl, hx, rfl, HJ⟩ := hrel
    by_cases h : t < l.length
    · have h' : (t : Int) < (l.length : Int) := by omega
      obtain ⟨bb, o, rfl, hc⟩ := Msk.at HV.out h
      have HSk := Lib.hid (HS.out t)
      have HCk := Lib.hid (HC.out x t hx)
      have HTk := Lib.hid (HT.out t h)
      have hlt := and_lt32 (l.getD t 0) hx
      by_cases hq : subN a (l.getD t 0) = true
      · have HJ2 := Lib.hid (show true = someN a (l.take (t + 1)) ∧ x &&& l.getD t 0 = allN a (l.take (t + 1)) from by
          rw [HTk.out, some_snoc, all_snoc, hq, if_pos rfl, Bool.or_true, HJ.out.2]
          exact ⟨rfl, rfl⟩)
        rw [hq] at HSk
        clear hq HJ HTk HS HC
        generalize l.getD t 0 = y at *
        generalize x &&& y = z at *
        go_wp2_with fail
        refine (HSk.out).mono ?_; rintro e w1 ⟨rfl, rfl⟩
        go_wp2_with fail
        refine (HCk.out).mono ?_; rintro e w1 ⟨rfl, rfl⟩
        go_wp2_with fail
        go_roundw
        case rel => exact ⟨t + 1, true, z, by omega, by go_num, rfl, rfl, hlt, by trivial, HJ2⟩
        case measure => simp [intOf]; omega
      · have hq2 := eq_false_of_ne_true hq
        have HJ2 := Lib.hid (show s = someN a (l.take (t + 1)) ∧ x = allN a (l.take (t + 1)) from by
          rw [HTk.out, some_snoc, all_snoc, hq2, if_neg (by decide), Bool.or_false]
          exact HJ.out)
        rw [hq2] at HSk
        clear hq hq2 HJ HTk HS HC HCk
        generalize l.getD t 0 = y at *
        go_wp2_with fail
        refine (HSk.out).mono ?_; rintro e w1 ⟨rfl, rfl⟩
        go_wp2_with fail
        go_roundw
        case rel => exact ⟨t + 1, s, x, by omega, by go_num, rfl, rfl, hx, by trivial, HJ2⟩
        case measure => simp [intOf]; omega
    · have e : t = l.length := by omega
      subst e
      have h' : ¬ (l.length : Int) < (l.length : Int) := by omega
      have HJ2 := Lib.hid (show comN l a = (s && x == a) from by
        have h1 := HJ.out
        rw [List.take_length] at h1
        rw [HR.out, ← h1.1, ← h1.2])
      clear HJ HR HS HC
      cases s with
      | false =>
        have HJ3 := Lib.hid (show comN l a = false from HJ2.out)
        clear HJ2
        go_wp2_with fail
        go_ret
        exact ⟨by rw [HJ3.out]; rfl, rfl⟩
      | true =>
        have hr : ((x : Int) == (a : Int)) = (x == a) := by
          by_cases q : x = a
          · subst q; simp
          · rw [beq_false_of_ne q, beq_false_of_ne (by omega)]
        have HJ3 := Lib.hid (show comN l a = (x == a) from HJ2.out)
        clear HJ2
        generalize (x == a) = r at *
        go_wp2_with fail
        go_ret
        exact ⟨by rw [HJ3.out]; rfl, rfl⟩
end Go.Proofs.Ytdopgpijbilffaa
