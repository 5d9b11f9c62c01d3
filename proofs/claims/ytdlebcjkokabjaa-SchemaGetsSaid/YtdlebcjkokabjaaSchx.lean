/- Layer 11: the reference's Get. -/
import Derived.Test.YtdlebcjkokabjaaSchw
import Derived.Test.YtdlebcjkokabjaaScht
import Derived.Test.YtdlebcjkokabjaaSchk
import Derived.Deep.RegionLaw
namespace Go.Proofs.Ytdlebcjkokabjaa
set_option maxRecDepth 100000
open Go.RowKit
set_option linter.unusedVariables false
theorem step_append_own {P : Program} (w : World) {ops : Array Oper} {o : Oper} {a : Act} {K : Act → World → Prop} {Q : Exit → Act → World → Prop} {E : Prop} (hgd : o.guard = none) (s x : Operand) (t : TypeId)
    (ho : o.op = .call { callee := .builtin .append, args := #[s, x], argTypes := #[t, t] })
    (base : Nat) (e : TypeId) (i : TypeInfo) (z : Value) (size bytes : Nat) (ht : P.underlying t = some (.slice e)) (hi : P.info? e = some i) (hz : i.zero = some z) (hsize : i.size = size) (hby : i.bytes = bytes) (hzs : z.cells.size = size) (hsz : 0 < size)
    (v : Value) (n : Nat) (xs : List Value) (hs : a.eval s = v) (hown : w.ownsRow base e size v n xs)
    (ad : Addr) (m c : Nat) (news : List Value) (hx : a.eval x = .slice (some ad) m c) (hl : news.length = m * size) (hnews : ∀ j u, news[j]? = some u → w.cell? (ad.add j) = some u) (h1 : ∀ u ∈ news, u.oneCell' = true)
    (h63 : n + m ≤ maxLen) (hbytes : (n + m) * bytes ≤ 140737488355328) (hbase : base ≤ w.heap.size)
    (h : ∀ v' w', w'.ownsRow base e size v' (n + m) (xs ++ news) → w.grownBy w' v.ownBlock → K (a.put o.dst v') w') :
    if Region.wanted o (yielded ops a.tmps) = true then Oper.wp P o a w K Q else E := by
  have hw : Region.wanted o (yielded ops a.tmps) = true := by simp [Region.wanted, hgd]
  rw [if_pos hw]
  exact wp_append_own w s x t ho base e i z size bytes ht hi hz hsize hby hzs hsz v n xs hs hown ad m c news hx hl hnews h1 h63 hbytes hbase fun v' w' h2 h3 _ => h v' w' h2 h3
/-- What stands in memory while the reference reads a schema: the reader, the result's cells, the schema's cells. -/
structure Rg (w wr : World) (v : Value) (s : Nat × Nat) (D I M V : Value) : Prop where
  i : R3 wr (w.heap.size + 1 + 1) v s.1 s.2
  r : Box wr w.heap.size (.slice none 0 0) (.slice none 0 0) (.slice none 0 0) (.slice none 0 0)
  k : Box wr (w.heap.size + 1) D I M V
  g : Below w.heap.size w wr
  sz : w.heap.size + 3 ≤ wr.heap.size
theorem Rg.call {w wr w1 : World} {v : Value} {s t : Nat × Nat} {D I M V : Value} (h : Rg w wr v s D I M V) (hi : R3 w1 (w.heap.size + 1 + 1) v t.1 t.2) (hg : wr.grownBy w1 (some (w.heap.size + 1 + 1))) : Rg w w1 v t D I M V :=
  ⟨hi, h.r.grown hg (by omega), h.k.grown hg (by omega), below_grown h.g hg (by omega), Nat.le_trans h.sz hg.size⟩
theorem Rg.stay {w wr w1 : World} {v : Value} {s : Nat × Nat} {D I M V D' I' M' V' : Value} (h : Rg w wr v s D I M V) (hk : Box w1 (w.heap.size + 1) D' I' M' V') (hg : wr.grownBy w1 (some (w.heap.size + 1))) : Rg w w1 v s D' I' M' V' :=
  ⟨h.i.grown hg (by omega), h.r.grown hg (by omega), hk, below_grown h.g hg (by omega), Nat.le_trans h.sz hg.size⟩
theorem Rg.below {w wr w1 : World} {v : Value} {s : Nat × Nat} {D I M V : Value} (h : Rg w wr v s D I M V) (hb : Below wr.heap.size wr w1) : Rg w w1 v s D I M V :=
  ⟨h.i.below hb, h.r.below hb, h.k.below hb, below_then h.g hb, Nat.le_trans h.sz hb.size⟩
theorem Rg.own {w wr w1 : World} {v u : Value} {s : Nat × Nat} {D I M V : Value} {E sz n : Nat} {xs : List Value} (h : Rg w wr v s D I M V) (ho : wr.ownsRow (w.heap.size + 3) E sz u n xs) (hg : wr.grownBy w1 u.ownBlock) : Rg w w1 v s D I M V := by
  rcases ho.2 with ⟨rfl, -⟩ | ⟨g, cap, cur, rfl, h2, h3, -⟩
  · exact h.below ((Below.refl _ _).grown hg (Nat.le_refl _) (fun k hk => by simp [Value.ownBlock] at hk))
  · exact ⟨h.i.grown (K := g) hg (by omega), h.r.grown (N := g) hg (by omega), h.k.grown (N := g) hg (by omega), below_grown (N := g) h.g hg (by omega), Nat.le_trans h.sz hg.size⟩
theorem rg_start (w : World) (v : Value) : Rg w (((w.alloc (SchO (.slice none 0 0) (.slice none 0 0) (.slice none 0 0) (.slice none 0 0))).alloc (SchO (.slice none 0 0) (.slice none 0 0) (.slice none 0 0) (.slice none 0 0))).alloc (.cells #[v, .int .i64 0, .int .i64 0] 84)) v (0, 0) (.slice none 0 0) (.slice none 0 0) (.slice none 0 0) (.slice none 0 0) := by
  have z1 : (w.alloc (SchO (.slice none 0 0) (.slice none 0 0) (.slice none 0 0) (.slice none 0 0))).heap.size = w.heap.size + 1 := by simp
  have z2 : ((w.alloc (SchO (.slice none 0 0) (.slice none 0 0) (.slice none 0 0) (.slice none 0 0))).alloc (SchO (.slice none 0 0) (.slice none 0 0) (.slice none 0 0) (.slice none 0 0))).heap.size = w.heap.size + 1 + 1 := by simp
  have k0 := box_new w (.slice none 0 0) (.slice none 0 0) (.slice none 0 0) (.slice none 0 0)
  have k1 := box_new (w.alloc (SchO (.slice none 0 0) (.slice none 0 0) (.slice none 0 0) (.slice none 0 0))) (.slice none 0 0) (.slice none 0 0) (.slice none 0 0) (.slice none 0 0)
  have k2 := heap_alloc_new ((w.alloc (SchO (.slice none 0 0) (.slice none 0 0) (.slice none 0 0) (.slice none 0 0))).alloc (SchO (.slice none 0 0) (.slice none 0 0) (.slice none 0 0) (.slice none 0 0))) (.cells #[v, .int .i64 0, .int .i64 0] 84)
  rw [z1] at k1
  rw [z2] at k2
  exact ⟨k2, k0.below (below_then (below_one _ _) (below_one _ _)), k1.below (below_one _ _), three_alloc w _ _ _, by simp⟩
theorem own_beside {w w' : World} {B B' E E' sz sz' n n' : Nat} {v v' : Value} {xs xs' : List Value} (h : w.ownsRow B E sz v n xs) (h' : w.ownsRow B' E' sz' v' n' xs') (hE : E ≠ E') (hg : w.grownBy w' v'.ownBlock) : w'.ownsRow B E sz v n xs := by
  refine h.kept hg ?_
  rcases h.2 with ⟨rfl, -⟩ | ⟨g, cap, cur, rfl, -, h3, -⟩
  · exact .inl rfl
  · right
    rcases h'.2 with ⟨rfl, -⟩ | ⟨g', cap', cur', rfl, -, h3', -⟩
    · simp [Value.ownBlock]
    · intro e
      have e2 : g = g' := by simpa [Value.ownBlock] using e
      subst e2
      rw [h3] at h3'
      have := Option.some.inj h3'
      injection this with _ e3 _
      exact hE e3
set_option maxHeartbeats 8000000 in
theorem rget_any (w : World) (v : Value) (b : List Int) (hv : Ints .u8 w v b) (hb : Bt b) (hl : b.length ≤ 20000) :
    Calls Try.prog 22 #[v] w fun r w' => GotS w w' b r := by
  obtain ⟨i0, hi, hz0, hz1, hz2⟩ := info_parts Try.infoDim
  obtain ⟨j0, hj, hy0, hy1, hy2⟩ := info_parts Try.infoU32
  obtain ⟨s1, s2, s3, s4, s5, s6, s7, s8⟩ := rd_st hb
  have hnr := num_range hb
  have HU := Lib.hid (fun wr s most (hg : Below w.heap.size w wr) (h : R3 wr (w.heap.size + 1 + 1) v s.1 s.2) (hs : OkSt b s) => readerU_any wr (w.heap.size + 1 + 1) v b s most h (hv.below hg) hb hl hs)
  have HT := Lib.hid (fun wr s (hg : Below w.heap.size w wr) (h : R3 wr (w.heap.size + 1 + 1) v s.1 s.2) (hs : OkSt b s) => readerT_any wr (w.heap.size + 1 + 1) v b s 16 h (hv.below hg) hb hl hs)
  have HKs := Lib.hid (fun k => dimsK_st hb s1 k)
  have HN := Lib.hid (fun k => show dimsK b (numD b).2 (k + 1) = ((dimsK b (numD b).2 k).1 ++ [(strB (stT b 16 (dimsK b (numD b).2 k).2).1, (stU b 4096 (stT b 16 (dimsK b (numD b).2 k).2).2).1)], (stU b 4096 (stT b 16 (dimsK b (numD b).2 k).2).2).2) from rfl)
  have HTs := Lib.hid (fun k => stT_st (b := b) 16 (HKs.out k).1)
  have HVz := Lib.hid (fun k => stU_val hb (most := 4096) (by decide) (stT b 16 (dimsK b (numD b).2 k).2).2)
  have HS0 := Lib.hid (rg_start w v)
  obtain ⟨a, cap, rfl, -, -⟩ := id hv
  generalize hW0 : ((w.alloc (SchO (.slice none 0 0) (.slice none 0 0) (.slice none 0 0) (.slice none 0 0))).alloc (SchO (.slice none 0 0) (.slice none 0 0) (.slice none 0 0) (.slice none 0 0))).alloc (.cells #[.slice a b.length cap, .int .i64 0, .int .i64 0] 84) = W0 at HS0
  have HU0 := Lib.hid (HU.out W0 (0, 0) 6 HS0.out.g HS0.out.i ⟨Nat.zero_le _, by decide⟩)
  change Hid (Calls _ _ _ _ fun r w' => r = .returned (.int .u64 (numD b).1) ∧ R3 w' (w.heap.size + 1 + 1) _ (numD b).2.1 (numD b).2.2 ∧ W0.grownBy w' (some (w.heap.size + 1 + 1))) at HU0
  obtain ⟨n, hn⟩ : ∃ n : Nat, (numD b).1 = n := ⟨(numD b).1.toNat, by omega⟩
  have i0' : IntKind.i64.wrap (n : Int) = n := IntWalk.i64_in _ (by omega)
  rw [hn] at HU0
  have hn6 : n ≤ 6 := by omega
  go_enter Try.func22, Try.ntmps22
  go_wp2_with fail
  refine (HU0.out).mono ?_; rintro r w1 ⟨rfl, hr, hg⟩
  have HS1 := Lib.hid (HS0.out.call hr hg)
  clear hr hg HU0
  go_wp2_with fail
  go_loopw [7] (fun i wr => ∃ k : Nat, k ≤ n ∧ i = .int .i64 k ∧ Hid (∃ D, DOwn wr (w.heap.size + 3) D (dimsK b (numD b).2 k).1 ∧ Rg w wr (.slice a b.length cap) (dimsK b (numD b).2 k).2 D (.slice none 0 0) (.slice none 0 0) (.slice none 0 0))) (fun i _ => n - (intOf i).toNat)
  case atStart => exact ⟨0, Nat.zero_le _, rfl, Lib.hid ⟨_, ⟨by simp [dimsK, cellsD], .inl ⟨rfl, rfl⟩⟩, HS1.out⟩⟩
  case round =>
    obtain ⟨k, hk, rfl, HS⟩ := hrel
    obtain ⟨D, hO, hS⟩ := HS.out
    have HO := Lib.hid hO
    have HSs := Lib.hid hS
    obtain ⟨pa, pl, pc, rfl⟩ := own_any hO
    clear hO hS HS
    by_cases hlk : k < n
    · have hlk' : (k : Int) < (n : Int) := by omega
      have HTk := Lib.hid (HT.out wr _ HSs.out.g HSs.out.i (HKs.out k).1)
      have HUk := Lib.hid (fun w2 hg h => HU.out w2 (stT b 16 (dimsK b (numD b).2 k).2).2 4096 hg h (HTs.out k))
      have HNk := Lib.hid (HN.out k)
      have HLk := Lib.hid (HKs.out k).2
      have hvz := HVz.out k
      generalize strB (stT b 16 (dimsK b (numD b).2 k).2).1 = x at *
      generalize (stU b 4096 (stT b 16 (dimsK b (numD b).2 k).2).2).1 = z at *
      generalize (stU b 4096 (stT b 16 (dimsK b (numD b).2 k).2).2).2 = s3' at *
      generalize (stT b 16 (dimsK b (numD b).2 k).2).2 = s2' at *
      obtain ⟨q, hq⟩ : ∃ q, (dimsK b (numD b).2 k).1 = q := ⟨_, rfl⟩
      rw [hq] at HNk HLk HO
      have iz : IntKind.i64.wrap z = z := IntWalk.i64_in _ (by omega)
      clear hq hvz
      go_wp2_with fail
      refine (HTk.out).mono ?_; rintro r w2 ⟨rfl, hr, hg⟩
      have HO2 := Lib.hid (own_far HO.out hg (by omega))
      have HS2 := Lib.hid (HSs.out.call hr hg)
      clear hr hg
      go_upto_region 8 with fail
      obtain ⟨x0, x1, x2, x3⟩ := HS2.out.k.reads
      obtain ⟨f0, f1, f2, f3⟩ := HS2.out.k.free
      have k0 : w2.drew.cell? ⟨w.heap.size + 1, 0, none⟩ = some (.slice pa pl pc) := by simp [x0]
      have HSd := Lib.hid (HS2.out.below (Below.refl _ _).drew)
      have HOd := Lib.hid (show DOwn w2.drew (w.heap.size + 3) (.slice pa pl pc) q from own_far HO2.out (grown_below (Below.refl _ _).drew (some w.heap.size)) (by omega))
      have HUd := Lib.hid (HUk.out _ HSd.out.g HSd.out.i)
      clear x0 x1 x2 x3 f0 f1 f2 f3
      go_region_law (first
        | (refine step_append_own _ (by rfl) _ _ _ (by rfl) (w.heap.size + 3) 54 i0 (.agg #[.string ⟨#[]⟩, .int .i64 0]) 2 24 Try.underlying22 hi hz0 hz1 hz2 zcells_dim (by decide) _ _ (cellsD q) (by rfl) (HO3.out.alloc _) ⟨w3.heap.size, 0, none⟩ 1 1 [.string x, .int .i64 z] (by rfl) rfl (dim_cells2 w3 x z) (by intro u hu; simp at hu; rcases hu with rfl | rfl <;> rfl) (by have := HLk.out; unfold maxLen; omega) (by have := HLk.out; omega) (by have := HS3.out.sz; simp; omega) ?_; intro v' w4 hown hgrow; have hown := dims_snoc hown; have HQ := Lib.hid (And.intro hown ((HS3.out.below (below_one _ _)).own (HO3.out.alloc _) hgrow)); obtain ⟨m0, m1, m2, m3⟩ := HQ.out.2.k.reads; obtain ⟨f0, f1, f2, f3⟩ := HQ.out.2.k.free; obtain ⟨pv', lv', cv', rfl⟩ := own_any hown; clear hown hgrow)
        | (go_simp; go_at_call 53; refine (HUd.out).mono ?_; rintro r w3 ⟨rfl, hr, hg⟩; have HS3 := Lib.hid (HSd.out.call hr hg); have HO3 := Lib.hid (own_far HOd.out hg (by omega)); obtain ⟨k0, k1, k2, k3⟩ := HS3.out.k.reads; have k4 := cell_hold (below_one w3 (.cells #[.string x, .int .i64 z] 54)) k0; clear hr hg))
      all_goals
        have HO5 := Lib.hid (own_far HQ.out.1 (grown_set w4 (w.heap.size + 1) 0 (.slice pv' lv' cv')) (by omega))
        have HS5 := Lib.hid (HQ.out.2.stay (HQ.out.2.k.set0 (u := .slice pv' lv' cv')) (grown_set w4 (w.heap.size + 1) 0 (.slice pv' lv' cv')))
        clear m0 m1 m2 m3 f0 f1 f2 f3 HQ
        go_wp2_with fail
        go_roundw
        case rel => exact ⟨k + 1, by omega, by go_num, Lib.hid ⟨_, by rw [HNk.out]; exact HO5.out, by rw [HNk.out]; exact HS5.out⟩⟩
        case measure => simp [intOf]; omega
    · have hkn : k = n := by omega
      have hr0 : rdD b = dimsK b (numD b).2 k := by unfold rdD; rw [hn, Int.toNat_natCast, hkn]
      rw [← hr0] at HO HSs
      have hlk' : ¬ (k : Int) < (n : Int) := by omega
      have HL1 := Lib.hid (fun wr (hg : Below w.heap.size w wr) (h : R3 wr (w.heap.size + 1 + 1) (.slice a b.length cap) (rdD b).2.1 (rdD b).2.2) => rlist_any w wr (w.heap.size + 1 + 1) _ b (rdD b).2 3 (by decide) (by decide) hv hg (by omega) h s2 hb hl)
      have HL2 := Lib.hid (fun wr (hg : Below w.heap.size w wr) (h : R3 wr (w.heap.size + 1 + 1) (.slice a b.length cap) (rdI b).2.1 (rdI b).2.2) => rlist_any w wr (w.heap.size + 1 + 1) _ b (rdI b).2 2 (by decide) (by decide) hv hg (by omega) h s4 hb hl)
      have HU3 := Lib.hid (fun wr hg h => HU.out wr (rdN b).2 15 hg h s6)
      change Hid (∀ (wr : World), _ → _ → Calls _ _ _ _ fun r w' => (∃ u, r = .returned u ∧ SOwn w' wr.heap.size u (rdI b).1) ∧ R3 w' (w.heap.size + 1 + 1) _ (rdI b).2.1 (rdI b).2.2 ∧ wr.grownBy w' (some (w.heap.size + 1 + 1))) at HL1
      change Hid (∀ (wr : World), _ → _ → Calls _ _ _ _ fun r w' => (∃ u, r = .returned u ∧ SOwn w' wr.heap.size u (rdN b).1) ∧ R3 w' (w.heap.size + 1 + 1) _ (rdN b).2.1 (rdN b).2.2 ∧ wr.grownBy w' (some (w.heap.size + 1 + 1))) at HL2
      change Hid (∀ (wr : World), _ → _ → Calls _ _ _ _ fun r w' => r = .returned (.int .u64 (numV b).1) ∧ R3 w' (w.heap.size + 1 + 1) _ (numV b).2.1 (numV b).2.2 ∧ wr.grownBy w' (some (w.heap.size + 1 + 1))) at HU3
      clear HT HKs HN HTs HVz hr0 hkn
      go_wp2_with fail
      refine (HL1.out _ HSs.out.g HSs.out.i).mono ?_; rintro r w2 ⟨⟨u2, rfl, ho⟩, hr, hg⟩
      have hc := HSs.out.call hr hg
      have OD2 := Lib.hid (own_far (own_far HO.out hg (by omega)) (grown_set w2 (w.heap.size + 1) 1 u2) (by omega))
      have OI2 := Lib.hid (own_far (own_low ho HSs.out.sz) (grown_set w2 (w.heap.size + 1) 1 u2) (by omega))
      have HS2 := Lib.hid (hc.stay (hc.k.set1 (u := u2)) (grown_set w2 (w.heap.size + 1) 1 u2))
      obtain ⟨k0, k1, k2, k3⟩ := hc.k.reads
      obtain ⟨f0, f1, f2, f3⟩ := hc.k.free
      obtain ⟨a2, l2, c2, rfl⟩ := own_any ho
      clear ho hr hg hc
      generalize hW2 : w2.setCell ⟨w.heap.size + 1, 1, none⟩ (.slice a2 l2 c2) = W2 at OD2 OI2 HS2
      go_wp2_with fail
      refine (HL2.out _ HS2.out.g HS2.out.i).mono ?_; rintro r w3 ⟨⟨u3, rfl, ho⟩, hr, hg⟩
      have hc := HS2.out.call hr hg
      have OD3 := Lib.hid (own_far (own_far OD2.out hg (by omega)) (grown_set w3 (w.heap.size + 1) 2 u3) (by omega))
      have OI3 := Lib.hid (own_far (own_far OI2.out hg (by omega)) (grown_set w3 (w.heap.size + 1) 2 u3) (by omega))
      have OM3 := Lib.hid (own_far (own_low ho HS2.out.sz) (grown_set w3 (w.heap.size + 1) 2 u3) (by omega))
      have HS3 := Lib.hid (hc.stay (hc.k.set2 (u := u3)) (grown_set w3 (w.heap.size + 1) 2 u3))
      clear k0 k1 k2 k3 f0 f1 f2 f3
      obtain ⟨k0, k1, k2, k3⟩ := hc.k.reads
      obtain ⟨f0, f1, f2, f3⟩ := hc.k.free
      obtain ⟨a3, l3, c3, rfl⟩ := own_any ho
      clear ho hr hg hc
      generalize hW3 : w3.setCell ⟨w.heap.size + 1, 2, none⟩ (.slice a3 l3 c3) = W3 at OD3 OI3 OM3 HS3
      go_wp2_with fail
      refine (HU3.out _ HS3.out.g HS3.out.i).mono ?_; rintro r w4 ⟨rfl, hr, hg⟩
      have OD4 := Lib.hid (own_far OD3.out hg (by omega))
      have OI4 := Lib.hid (own_far OI3.out hg (by omega))
      have OM4 := Lib.hid (own_far OM3.out hg (by omega))
      have HS4 := Lib.hid (HS3.out.call hr hg)
      obtain ⟨n2, hn2⟩ : ∃ n2 : Nat, (numV b).1 = n2 := ⟨(numV b).1.toNat, by omega⟩
      have hn15 : n2 ≤ 15 := by omega
      have i2' : IntKind.i64.wrap (numV b).1 = n2 := by rw [hn2]; exact IntWalk.i64_in _ (by omega)
      clear k0 k1 k2 k3 f0 f1 f2 f3 hr hg
      have HKv := Lib.hid (fun k => setsK_st hb s7 k)
      have HNv := Lib.hid (fun k => show setsK b (numV b).2 (k + 1) = ((setsK b (numV b).2 k).1 ++ [(stU b 4294967295 (setsK b (numV b).2 k).2).1], (stU b 4294967295 (setsK b (numV b).2 k).2).2) from rfl)
      have HVv := Lib.hid (fun k => stU_val hb (most := 4294967295) (by decide) (setsK b (numV b).2 k).2)
      generalize hDD : Value.slice pa pl pc = DD at *
      generalize hII : Value.slice a2 l2 c2 = II at *
      generalize hMM : Value.slice a3 l3 c3 = MM at *
      clear HL1 HL2 HU3 HSs HO HS2 HS3 OD2 OI2 OD3 OI3 OM3
      go_wp2_with fail
      go_loopw [9] (fun i wr => ∃ k : Nat, k ≤ n2 ∧ i = .int .i64 k ∧ Hid (∃ V, UOwn wr (w.heap.size + 3) V (setsK b (numV b).2 k).1 ∧ Rg w wr (.slice a b.length cap) (setsK b (numV b).2 k).2 DD II MM V ∧ DOwn wr (w.heap.size + 3) DD (rdD b).1 ∧ SOwn wr (w.heap.size + 3) II (rdI b).1 ∧ SOwn wr (w.heap.size + 3) MM (rdN b).1)) (fun i _ => n2 - (intOf i).toNat)
      case atStart => exact ⟨0, Nat.zero_le _, rfl, Lib.hid ⟨_, ⟨by simp [setsK], .inl ⟨rfl, rfl⟩⟩, HS4.out, OD4.out, OI4.out, OM4.out⟩⟩
      case round =>
        obtain ⟨k, hk, rfl, HS⟩ := hrel
        obtain ⟨V, hO, hS, hOD, hOI, hOM⟩ := HS.out
        have HO := Lib.hid hO
        have HSs := Lib.hid hS
        have HOs := Lib.hid (And.intro hOD (And.intro hOI hOM))
        obtain ⟨pva, pvl, pvc, rfl⟩ := own_any hO
        clear hO hS HS hOD hOI hOM HS4 OD4 OI4 OM4
        by_cases hlk : k < n2
        · have hlk' : (k : Int) < (n2 : Int) := by omega
          have HNk := Lib.hid (HNv.out k)
          have HLk := Lib.hid (HKv.out k).2
          have hvz := HVv.out k
          have HSd := Lib.hid (HSs.out.below (Below.refl _ _).drew)
          have HOd := Lib.hid (show UOwn wr.drew (w.heap.size + 3) (.slice pva pvl pvc) (setsK b (numV b).2 k).1 from own_far HO.out (grown_below (Below.refl _ _).drew (some w.heap.size)) (by omega))
          have HOe := Lib.hid (And.intro (own_far HOs.out.1 (grown_below (Below.refl _ _).drew (some w.heap.size)) (by omega)) (And.intro (own_far HOs.out.2.1 (grown_below (Below.refl _ _).drew (some w.heap.size)) (by omega)) (own_far HOs.out.2.2 (grown_below (Below.refl _ _).drew (some w.heap.size)) (by omega))))
          have HUd := Lib.hid (HU.out _ _ 4294967295 HSd.out.g HSd.out.i (HKv.out k).1)
          generalize (stU b 4294967295 (setsK b (numV b).2 k).2).1 = z at *
          generalize (stU b 4294967295 (setsK b (numV b).2 k).2).2 = s3' at *
          obtain ⟨q, hq⟩ : ∃ q, (setsK b (numV b).2 k).1 = q := ⟨_, rfl⟩
          rw [hq] at HNk HLk HO HOd
          have iz : IntKind.u32.wrap z = z := by rw [IntKind.wrap_u32]; omega
          obtain ⟨x0, x1, x2, x3⟩ := HSs.out.k.reads
          have k3 : wr.drew.cell? ⟨w.heap.size + 1, 3, none⟩ = some (.slice pva pvl pvc) := by simp [x3]
          clear hq hvz x0 x1 x2 x3 HSs HO HOs
          go_upto_region 15 with fail
          go_region_law (first
            | (refine step_append_ints _ (by rfl) _ _ _ (by rfl) (w.heap.size + 3) 27 j0 (.int .u32 0) 4 Try.underlying24 hj hy0 hy1 hy2 (by rfl) .u32 _ _ q [z] (by rfl) (by rfl) (HO3.out.alloc _) (ints_one' rfl) (by have := HLk.out; unfold maxLen; simp; omega) (by have := HLk.out; simp; omega) (by have := HS3.out.sz; simp; omega) ?_; intro v' w4 hown hgrow; have HQ := Lib.hid (And.intro hown ((HS3.out.below (below_one _ _)).own (HO3.out.alloc _) hgrow)); have HQe := Lib.hid (And.intro (own_beside (HOe3.out.1.alloc _) (HO3.out.alloc _) (by decide) hgrow) (And.intro (own_beside (HOe3.out.2.1.alloc _) (HO3.out.alloc _) (by decide) hgrow) (own_beside (HOe3.out.2.2.alloc _) (HO3.out.alloc _) (by decide) hgrow))); obtain ⟨m0, m1, m2, m3⟩ := HQ.out.2.k.reads; obtain ⟨f0, f1, f2, f3⟩ := HQ.out.2.k.free; obtain ⟨pv', lv', cv', rfl⟩ := own_any hown; clear hown hgrow)
            | (go_simp; go_at_call 53; refine (HUd.out).mono ?_; rintro r w3 ⟨rfl, hr, hg⟩; have HS3 := Lib.hid (HSd.out.call hr hg); have HO3 := Lib.hid (own_far HOd.out hg (by omega)); have HOe3 := Lib.hid (And.intro (own_far HOe.out.1 hg (by omega)) (And.intro (own_far HOe.out.2.1 hg (by omega)) (own_far HOe.out.2.2 hg (by omega)))); obtain ⟨k0, k1, k2, k3⟩ := HS3.out.k.reads; have k4 := cell_hold (below_one w3 (.cells #[.int .u32 z] 27)) k3; clear hr hg))
          all_goals
            have hg5 := grown_set w4 (w.heap.size + 1) 3 (.slice pv' lv' cv')
            have HO5 := Lib.hid (own_far HQ.out.1 hg5 (by omega))
            have HOe5 := Lib.hid (And.intro (own_far HQe.out.1 hg5 (by omega)) (And.intro (own_far HQe.out.2.1 hg5 (by omega)) (own_far HQe.out.2.2 hg5 (by omega))))
            have HS5 := Lib.hid (HQ.out.2.stay (HQ.out.2.k.set3 (u := .slice pv' lv' cv')) hg5)
            clear m0 m1 m2 m3 f0 f1 f2 f3 HQ hg5
            go_wp2_with fail
            go_roundw
            case rel => exact ⟨k + 1, by omega, by go_num, Lib.hid ⟨_, by rw [HNk.out]; exact HO5.out, by rw [HNk.out]; exact HS5.out, HOe5.out⟩⟩
            case measure => simp [intOf]; omega
        · have hkn : k = n2 := by omega
          have hr0 : rdV b = setsK b (numV b).2 k := by unfold rdV; rw [hn2, Int.toNat_natCast, hkn]
          rw [← hr0] at HO HSs
          have hlk' : ¬ (k : Int) < (n2 : Int) := by omega
          have HO4 := Lib.hid (show Own4 wr (w.heap.size + 3) DD II MM (.slice pva pvl pvc) (rdS b) from ⟨HOs.out.1, HOs.out.2.1, HOs.out.2.2, HO.out⟩)
          have HEn := Lib.hid (rend_any wr (w.heap.size + 1 + 1) (.slice a b.length cap) b (rdV b).2 HSs.out.i (hv.below HSs.out.g) s8)
          have HCk := Lib.hid (fun w1 D I M V (h : Sch4 w1 D I M V (rdS b)) => rcheck_any w1 D I M V (rdS b) h (rdS_wf hb))
          have HG := Lib.hid (show getE b = if endE b (rdV b).2 ≠ 0 then endE b (rdV b).2 else checkL (rdS b) from rfl)
          have HGS := Lib.hid (show getS b = if getE b = 0 then rdS b else zeroS from rfl)
          generalize (rdV b).2 = st at *
          generalize rdS b = S at *
          clear HO HOs HKv HNv HVv HU hr0 hkn
          subst hDD hII hMM
          go_wp2_with fail
          refine (HEn.out).mono ?_; rintro r w5 ⟨rfl, hr, hg⟩
          have HS5 := Lib.hid (HSs.out.call (t := (st.1, endE b st)) hr hg)
          have HO5 := Lib.hid (HO4.out.far hg (by omega))
          clear hr hg
          by_cases he : endE b st = 0
          · rw [he] at HG HS5 ⊢
            have HG2 := Lib.hid (show getE b = checkL S from HG.out)
            obtain ⟨k0, k1, k2, k3⟩ := HS5.out.k.reads
            clear HG he
            go_wp2_with fail
            refine (HCk.out _ _ _ _ _ HO5.out.sch).mono ?_; rintro r w6 ⟨rfl, hb6⟩
            have HS6 := Lib.hid (HS5.out.below hb6)
            have HO6 := Lib.hid (HO5.out.far (grown_below hb6 (some w.heap.size)) (by omega))
            clear hb6 k0 k1 k2 k3
            obtain ⟨k0, k1, k2, k3⟩ := HS6.out.k.reads
            by_cases hc : checkL S = 0
            · rw [hc]
              have HE := Lib.hid (show getE b = 0 by rw [HG2.out, hc])
              have HS := Lib.hid (show getS b = S by rw [HGS.out, if_pos HE.out])
              obtain ⟨t0, t1, t2, t3⟩ := HS6.out.r.reads
              obtain ⟨g0, g1, g2, g3⟩ := HS6.out.r.free
              clear hc
              go_wp2_with fail
              have hb5 := Box.set3 (u := (.slice pva pvl pvc)) (Box.set2 (u := (.slice a3 l3 c3)) (Box.set1 (u := (.slice a2 l2 c2)) (Box.set0 (u := (.slice pa pl pc)) HS6.out.r)))
              have hgR := grown_then (grown_then (grown_then (grown_set w6 w.heap.size 0 (.slice pa pl pc)) (grown_set _ w.heap.size 1 (.slice a2 l2 c2))) (grown_set _ w.heap.size 2 (.slice a3 l3 c3))) (grown_set _ w.heap.size 3 (.slice pva pvl pvc))
              obtain ⟨z0, z1, z2, z3⟩ := hb5.reads
              have HB5 := below_grown HS6.out.g hgR (Nat.le_refl _)
              have HO7 := HO6.out.far hgR (by omega)
              generalize ((((w6.setCell ⟨w.heap.size, 0, none⟩ (.slice pa pl pc)).setCell ⟨w.heap.size, 1, none⟩ (.slice a2 l2 c2)).setCell ⟨w.heap.size, 2, none⟩ (.slice a3 l3 c3)).setCell ⟨w.heap.size, 3, none⟩ (.slice pva pvl pvc)) = W5 at *
              exact bodyPost_ret (v := .tuple #[SchV (.slice pa pl pc) (.slice a2 l2 c2) (.slice a3 l3 c3) (.slice pva pvl pvc), .int .i64 0]) (by simp [results, Try.results22, z0, z1, z2, z3, go_sem]) rfl ⟨_, _, _, _, by rw [HE.out]; rfl, by rw [HS.out]; exact HO7.sch, HB5⟩
            · have HE := Lib.hid (show getE b = checkL S from HG2.out)
              have HS := Lib.hid (show getS b = zeroS by rw [HGS.out, if_neg (by rw [HE.out]; exact hc)])
              have hc2 : ((checkL S : Int) != 0) = true := by simp; omega
              have hc3 : ((checkL S : Int) = 0) = False := eq_false (by omega)
              generalize hck : (checkL S : Int) = ck at *
              have HCK := Lib.hid hck
              clear hc hck
              go_wp2_with fail
              refine (HCk.out _ _ _ _ _ HO6.out.sch).mono ?_; rintro r w7 ⟨rfl, hb7⟩
              have HS7 := Lib.hid (HS6.out.below hb7)
              obtain ⟨t0, t1, t2, t3⟩ := HS7.out.r.reads
              obtain ⟨g0, g1, g2, g3⟩ := HS7.out.r.free
              clear hb7 k0 k1 k2 k3
              go_wp2_with fail
              have hb5 := Box.set3 (u := (.slice none 0 0)) (Box.set2 (u := (.slice none 0 0)) (Box.set1 (u := (.slice none 0 0)) (Box.set0 (u := (.slice none 0 0)) HS7.out.r)))
              have hgR := grown_then (grown_then (grown_then (grown_set w7 w.heap.size 0 (.slice none 0 0)) (grown_set _ w.heap.size 1 (.slice none 0 0))) (grown_set _ w.heap.size 2 (.slice none 0 0))) (grown_set _ w.heap.size 3 (.slice none 0 0))
              obtain ⟨z0, z1, z2, z3⟩ := hb5.reads
              have HB5 := below_grown HS7.out.g hgR (Nat.le_refl _)
              generalize ((((w7.setCell ⟨w.heap.size, 0, none⟩ (.slice none 0 0)).setCell ⟨w.heap.size, 1, none⟩ (.slice none 0 0)).setCell ⟨w.heap.size, 2, none⟩ (.slice none 0 0)).setCell ⟨w.heap.size, 3, none⟩ (.slice none 0 0)) = W5 at *
              exact bodyPost_ret (v := .tuple #[SchV (.slice none 0 0) (.slice none 0 0) (.slice none 0 0) (.slice none 0 0), .int .i64 ck]) (by simp [results, Try.results22, z0, z1, z2, z3, go_sem]) rfl ⟨_, _, _, _, by rw [HE.out, HCK.out], by rw [HS.out]; exact zero_sch _, HB5⟩
          · have HE := Lib.hid (show getE b = endE b st by rw [HG.out, if_pos he])
            have HS := Lib.hid (show getS b = zeroS by rw [HGS.out, if_neg (by rw [HE.out]; exact he)])
            have hc2 : ((endE b st : Int) != 0) = true := by simp; omega
            have hc3 : ((endE b st : Int) = 0) = False := eq_false (by omega)
            obtain ⟨e0, e1, e2⟩ := HS5.out.i.reads
            generalize hck : (endE b st : Int) = ck at *
            have HCK := Lib.hid hck
            obtain ⟨t0, t1, t2, t3⟩ := HS5.out.r.reads
            obtain ⟨g0, g1, g2, g3⟩ := HS5.out.r.free
            clear he hck
            go_upto_region 17 with fail
            go_region
            have hb5 := Box.set3 (u := (.slice none 0 0)) (Box.set2 (u := (.slice none 0 0)) (Box.set1 (u := (.slice none 0 0)) (Box.set0 (u := (.slice none 0 0)) HS5.out.r)))
            have hgR := grown_drew (grown_then (grown_then (grown_then (grown_set w5 w.heap.size 0 (.slice none 0 0)) (grown_set _ w.heap.size 1 (.slice none 0 0))) (grown_set _ w.heap.size 2 (.slice none 0 0))) (grown_set _ w.heap.size 3 (.slice none 0 0)))
            have hb6 := hb5.below (Below.refl _ _).drew
            obtain ⟨z0, z1, z2, z3⟩ := hb6.reads
            have HB5 := below_grown HS5.out.g hgR (Nat.le_refl _)
            generalize ((((w5.setCell ⟨w.heap.size, 0, none⟩ (.slice none 0 0)).setCell ⟨w.heap.size, 1, none⟩ (.slice none 0 0)).setCell ⟨w.heap.size, 2, none⟩ (.slice none 0 0)).setCell ⟨w.heap.size, 3, none⟩ (.slice none 0 0)).drew = W5 at *
            go_wp2_with fail
            exact bodyPost_ret (v := .tuple #[SchV (.slice none 0 0) (.slice none 0 0) (.slice none 0 0) (.slice none 0 0), .int .i64 ck]) (by simp [results, Try.results22, z0, z1, z2, z3, go_sem]) rfl ⟨_, _, _, _, by rw [HE.out, HCK.out], by rw [HS.out]; exact zero_sch _, HB5⟩
end Go.Proofs.Ytdlebcjkokabjaa
