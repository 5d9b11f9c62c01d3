/- Layer 12: what is put is got. -/
import Derived.Test.YtdnbjaeeebodkaaFacr
import Derived.Test.YtdnbjaeeebodkaaFacl
namespace Go.Proofs.Ytdnbjaeeebodkaa
set_option maxRecDepth 100000
open Go.RowKit
set_option linter.unusedVariables false
theorem flat_bt {α : Type} {e : α → List Int} : ∀ {l : List α}, (∀ x ∈ l, Bt (e x)) → Bt (l.flatMap e)
  | [], _ => bt_nil
  | x :: l, h => by
    rw [List.flatMap_cons]
    exact (h x (List.mem_cons_self ..)).append (flat_bt fun y hy => h y (List.mem_cons_of_mem _ hy))
theorem Small.bt {f : Fa} (h : Small f) : Bt (encFa f) := by
  unfold encFa
  refine ((flat_bt fun x hx => ?_).append (flat_bt fun x hx => ?_)).append (flat_bt fun x hx => ?_)
  · have := h.c x hx
    exact encU_bt (by omega)
  · exact encI_bt (h.wf.i x hx).1 (h.wf.i x hx).2
  · exact bigN_bt _ _
theorem encFs_bt {l : List Fa} (hs : ∀ f ∈ l, Small f) (hl : l.length ≤ 200) : Bt (encFs l) ∧ (encFs l).length ≤ 20000 := by
  have h1 := (encU_len (x := l.length) (by omega)).2
  have h2 := flat_max' (e := encFa) (l := l) (fun x hx => (hs x hx).le)
  unfold encFs
  refine ⟨(encU_bt (by omega)).append (flat_bt fun x hx => (hs x hx).bt), ?_⟩
  rw [List.length_append]
  omega
theorem FaWf.norm {f : Fa} (h : FaWf f) : FaWf (normF f) := by
  refine ⟨h.c, h.i, fun x hx => ?_, ?_⟩
  · obtain ⟨y, hy, rfl⟩ := List.mem_map.1 hx
    exact (keyed_from (keyed_key (h.n y hy))).1
  · refine ⟨h.l.1, h.l.2.1, ?_⟩
    show (f.ns.map _).length ≤ _
    rw [List.length_map]
    exact h.l.2.2
theorem put_got {S : Sc} {l : List Fa} (hf : ∀ f ∈ l, FaWf f) (h : (batchL S l).2 = 0) : (∀ f ∈ l, Small f) ∧ l.length ≤ 200 ∧ getGE S (encFs l) = 0 ∧ getGF S (encFs l) = l.map normF ∧ sameFs l (l.map normF) = true ∧ ∀ f ∈ l.map normF, FaWf f := by
  obtain ⟨hc, hl1, hl2, hfs⟩ := batch_ok h
  have h1 := rdB_fwd (ms := mostsS S) (ni := S.is.length) (nn := S.ns.length) hl1 hl2 (fun f hm => fit_of_fits hc (hf f hm).i (hf f hm).n (hfs f hm))
  have h2 : getGE S (encFs l) = 0 := by unfold getGE; rw [if_neg (by omega)]; exact h1.1
  refine ⟨fun f hm => small_of hc (hf f hm) (hfs f hm), hl2, h2, ?_, same_norm (fun f hm => (hf f hm).n), fun f hm => ?_⟩
  · unfold getGF; rw [if_pos h2]; exact h1.2
  · obtain ⟨g, hg, rfl⟩ := List.mem_map.1 hm
    exact (hf g hg).norm
end Go.Proofs.Ytdnbjaeeebodkaa
