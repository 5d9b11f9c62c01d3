/- Layer 10, plain facts: the reserved words, where a text stands in a list, what stands there twice, what is a name; nothing of the program. -/
import Derived.WalkKit
import Derived.Maps.OwnSet
namespace Go.Proofs.Ytdlebcjkokabjaa
set_option maxRecDepth 100000
open Go.RowKit
/-- The reserved words. -/
def wordsL : List ByteArray := [⟨#[97, 110, 100]⟩, ⟨#[97, 115, 99]⟩, ⟨#[98, 121]⟩, ⟨#[99, 111, 117, 110, 116]⟩, ⟨#[100, 101, 115, 99]⟩, ⟨#[100, 101, 118]⟩, ⟨#[105, 110]⟩, ⟨#[108, 105, 109, 105, 116]⟩,
  ⟨#[109, 97, 120]⟩, ⟨#[109, 101, 97, 110]⟩, ⟨#[109, 105, 110]⟩, ⟨#[111, 114, 100, 101, 114]⟩, ⟨#[115, 101, 108, 101, 99, 116]⟩, ⟨#[115, 104, 97, 114, 101]⟩, ⟨#[115, 117, 109]⟩, ⟨#[119, 104, 101, 114, 101]⟩]
/-- The k-th text of a list. -/
def txt (l : List ByteArray) (k : Nat) : ByteArray := l.getD k ByteArray.empty
/-- Whether two texts are one. -/
def eqB (a b : ByteArray) : Bool := decide (a.data.toList = b.data.toList)
theorem bytes_eq {a b : ByteArray} (h : a.data.toList = b.data.toList) : a = b := ByteArray.ext (Array.toList_inj.1 h)
theorem eqB_iff {a b : ByteArray} : eqB a b = true ↔ a = b := by
  unfold eqB
  exact ⟨fun h => bytes_eq (of_decide_eq_true h), fun h => decide_eq_true (by rw [h])⟩
theorem eqB_refl (a : ByteArray) : eqB a a = true := eqB_iff.2 rfl
theorem eqB_ne {a b : ByteArray} (h : a ≠ b) : eqB a b = false := by
  cases e : eqB a b with
  | false => rfl
  | true => exact absurd (eqB_iff.1 e) h
/-- Where a text stands first, or -1. -/
def placeL (l : List ByteArray) (s : ByteArray) : Int := if l.findIdx (fun x => eqB x s) < l.length then (l.findIdx (fun x => eqB x s) : Int) else -1
theorem find_hit {α : Type} {p : α → Bool} {l : List α} {k : Nat} (hk : k < l.length) (h : p l[k] = true) (hb : ∀ j (hj : j < k), p l[j] = false) : l.findIdx p = k := (List.findIdx_eq hk).2 ⟨h, hb⟩
theorem txt_get {l : List ByteArray} {k : Nat} (hk : k < l.length) : txt l k = l[k] := by simp [txt, List.getD, List.getElem?_eq_getElem hk]
theorem place_hit {l : List ByteArray} {s : ByteArray} {k : Nat} (hk : k < l.length) (h : txt l k = s) (hb : ∀ j, j < k → txt l j ≠ s) : placeL l s = k := by
  have e : l.findIdx (fun x => eqB x s) = k := find_hit hk (by rw [← txt_get hk, h]; exact eqB_refl _) (fun j hj => by
    have := hb j hj
    rw [txt_get (by omega)] at this
    exact eqB_ne this)
  unfold placeL
  rw [e, if_pos hk]
theorem place_miss {l : List ByteArray} {s : ByteArray} (hb : ∀ j, j < l.length → txt l j ≠ s) : placeL l s = -1 := by
  have e : l.findIdx (fun x => eqB x s) = l.length := List.findIdx_eq_length.2 (fun x hx => by
    obtain ⟨j, hj, rfl⟩ := List.getElem_of_mem hx
    have := hb j hj
    rw [txt_get hj] at this
    exact eqB_ne this)
  unfold placeL
  rw [e, if_neg (by omega)]
theorem place_range (l : List ByteArray) (s : ByteArray) : -1 ≤ placeL l s ∧ placeL l s < l.length := by unfold placeL; split <;> omega
theorem place_mem {l : List ByteArray} {s : ByteArray} : 0 ≤ placeL l s ↔ s ∈ l := by
  unfold placeL
  constructor
  · intro h
    split at h
    · rename_i hk
      have := List.findIdx_getElem (w := hk)
      have e : l[l.findIdx (fun x => eqB x s)] = s := eqB_iff.1 this
      rw [← e]; exact List.getElem_mem hk
    · omega
  · intro h
    have hk : l.findIdx (fun x => eqB x s) < l.length := List.findIdx_lt_length_of_exists ⟨s, h, eqB_refl s⟩
    rw [if_pos hk]
    omega
/-- The first index whose text stands before, too, or -1. -/
def twiceAt (l : List ByteArray) (k : Nat) : Bool := decide (0 ≤ placeL (l.take k) (txt l k))
def twiceL (l : List ByteArray) : Int := if (List.range l.length).findIdx (twiceAt l) < l.length then ((List.range l.length).findIdx (twiceAt l) : Int) else -1
theorem twice_hit {l : List ByteArray} {k : Nat} (hk : k < l.length) (h : twiceAt l k = true) (hb : ∀ j, j < k → twiceAt l j = false) : twiceL l = k := by
  have e : (List.range l.length).findIdx (twiceAt l) = k := find_hit (by simpa using hk) (by simpa using h) (fun j hj => by simpa using hb j hj)
  unfold twiceL
  rw [e, if_pos hk]
theorem twice_miss {l : List ByteArray} (hb : ∀ j, j < l.length → twiceAt l j = false) : twiceL l = -1 := by
  have e : (List.range l.length).findIdx (twiceAt l) = (List.range l.length).length := List.findIdx_eq_length.2 (fun x hx => hb x (by simpa using hx))
  rw [List.length_range] at e
  unfold twiceL
  rw [e, if_neg (by omega)]
theorem twice_range (l : List ByteArray) : -1 ≤ twiceL l ∧ twiceL l < l.length := by unfold twiceL; split <;> omega
/-- The map of the texts that have occurred. -/
def keyL (s : ByteArray) : Lit := .string s.data.toList
def seen (l : List ByteArray) (k : Nat) : DataW Unit := Maps.setOf (.agg []) ((l.take k).map keyL)
theorem key_same (a b : ByteArray) : (keyL a).sameKey (keyL b) = eqB a b := by
  by_cases h : a = b
  · subst h; rw [eqB_refl]; simp [keyL, Lit.sameKey]
  · rw [Maps.sameKey_ne (fun e => h (bytes_eq (by simpa [keyL] using e))), eqB_ne h]
theorem seen_zero (l : List ByteArray) : seen l 0 = .map [] := rfl
theorem seen_next {l : List ByteArray} {k : Nat} (hk : k < l.length) : seen l (k + 1) = (seen l k).put (keyL (txt l k)) (.agg []) := by
  unfold seen
  rw [List.take_add_one, List.getElem?_eq_getElem hk, List.map_append, Option.toList, List.map_cons, List.map_nil, Maps.setOf_snoc, txt_get hk]
theorem has_seen (l : List ByteArray) (k : Nat) : Maps.has (seen l k) (keyL (txt l k)) = twiceAt l k := by
  unfold seen
  rw [Maps.has_setOf _ _ _ (fun x hx => by obtain ⟨s, -, rfl⟩ := List.mem_map.1 hx; trivial), List.any_map]
  have e : ((fun x : Lit => x.sameKey (keyL (txt l k))) ∘ keyL) = fun x => eqB x (txt l k) := funext fun x => key_same x _
  rw [e]
  unfold twiceAt
  by_cases h : txt l k ∈ l.take k
  · rw [decide_eq_true (place_mem.2 h)]
    exact List.any_eq_true.2 ⟨_, h, eqB_refl _⟩
  · rw [decide_eq_false (fun q => h (place_mem.1 q))]
    refine List.any_eq_false.2 fun x hx => ?_
    rw [eqB_ne (a := x) (fun e => h (by rw [← e]; exact hx))]
    simp
/-- Letters and digits. -/
def letB (c : Int) : Bool := decide (97 ≤ c ∧ c ≤ 122)
def digB (c : Int) : Bool := decide (48 ≤ c ∧ c ≤ 57)
/-- The j-th byte of a text. -/
def byt (s : ByteArray) (j : Nat) : Int := ((s.data.getD j 0).toNat : Int)
theorem byt_range (s : ByteArray) (j : Nat) : 0 ≤ byt s j ∧ byt s j ≤ 255 := by
  have := (s.data.getD j 0).toNat_lt
  unfold byt; omega
/-- What may stand at place j of a name. -/
def okAt (s : ByteArray) (j : Nat) : Bool := letB (byt s j) || (decide (0 < j) && (digB (byt s j) || decide (byt s j = 95)))
/-- A name. -/
def nameB (s : ByteArray) : Bool := decide (1 ≤ s.size) && decide (s.size ≤ 16) && (List.range s.size).all (okAt s) && decide (placeL wordsL s < 0)
theorem name_bad {s : ByteArray} {j : Nat} (hj : j < s.size) (h : okAt s j = false) : nameB s = false := by
  have : (List.range s.size).all (okAt s) = false := List.all_eq_false.2 ⟨j, by simpa using hj, by simp [h]⟩
  simp [nameB, this]
theorem name_size {s : ByteArray} (h : ¬ (1 ≤ s.size ∧ s.size ≤ 16)) : nameB s = false := by
  unfold nameB
  by_cases h1 : 1 ≤ s.size
  · rw [decide_eq_false (p := s.size ≤ 16) (by omega)]; simp
  · rw [decide_eq_false h1]; simp
theorem name_word {s : ByteArray} (h : 0 ≤ placeL wordsL s) : nameB s = false := by
  unfold nameB
  rw [decide_eq_false (p := placeL wordsL s < 0) (by omega)]; simp
theorem name_good {s : ByteArray} (h : 1 ≤ s.size ∧ s.size ≤ 16) (hb : ∀ j, j < s.size → okAt s j = true) : nameB s = decide (placeL wordsL s < 0) := by
  have : (List.range s.size).all (okAt s) = true := List.all_eq_true.2 fun x hx => hb x (by simpa using hx)
  unfold nameB
  rw [decide_eq_true h.1, decide_eq_true h.2, this]
  simp
theorem toL_same (a : ByteArray) : (a.toList == a.toList) = true := by simp
theorem toL_ne {a b : ByteArray} (h : a ≠ b) : (a.toList == b.toList) = false := by
  have : a.toList ≠ b.toList := fun e => h (bytes_eq (by rw [← ByteArray.toList_eq, ← ByteArray.toList_eq]; exact e))
  simpa using this
end Go.Proofs.Ytdlebcjkokabjaa
