/- Layer 13: directories, on plain things: setting, striking, reading back. -/
import Derived.Test.YtapegklffglnoaaDirW
import Derived.Test.YtapegklffglnoaaItP
namespace Go.Proofs.Ytapegklffglnoaa
open Go.RowKit

/-! The order. -/
def Up (xs : List Ent) : Prop := xs.Pairwise fun a b => lessB a.name b.name = true
theorem up_of {xs : List Ent} (h : RisesE xs.length xs) : Up xs := by
  unfold Up
  rw [List.pairwise_iff_getElem]
  intro i j hi hj hij
  exact rises_up h hij (List.getElem?_eq_getElem hi) (List.getElem?_eq_getElem hj)
theorem of_up {xs : List Ent} (h : Up xs) : RisesE xs.length xs := fun i a b hi ha hb => by
  unfold Up at h
  rw [List.pairwise_iff_getElem] at h
  obtain ⟨h1, rfl⟩ := List.getElem?_eq_some_iff.1 ha
  obtain ⟨h2, rfl⟩ := List.getElem?_eq_some_iff.1 hb
  exact h i (i + 1) h1 h2 (Nat.lt_succ_self i)

theorem has_low {xs : List Ent} {k : ByteArray} (h : hasE xs k = true) : lowE xs k < xs.length := by
  unfold hasE at h
  split at h
  · rename_i x hx
    exact (List.getElem?_eq_some_iff.1 hx).1
  · cases h
theorem before_mem {xs : List Ent} {k : ByteArray} {a : Ent} (h : a ∈ xs.take (lowE xs k)) : lessB a.name k = true := by
  obtain ⟨t, ht, rfl⟩ := List.getElem_of_mem h
  have ht2 : t < lowE xs k := Nat.lt_of_lt_of_le ht (by rw [List.length_take]; exact Nat.min_le_left _ _)
  exact low_before (t := t) ht2 (by rw [List.getElem_take]; exact List.getElem?_eq_getElem _)
theorem behind_mem {xs : List Ent} {k : ByteArray} {a : Ent} (hr : RisesE xs.length xs) (h : a ∈ xs.drop (lowE xs k + if hasE xs k then 1 else 0)) : lessB k a.name = true := by
  obtain ⟨t, ht, rfl⟩ := List.getElem_of_mem h
  rw [List.length_drop] at ht
  have e : xs[(lowE xs k + if hasE xs k then 1 else 0) + t]? = some (xs.drop (lowE xs k + if hasE xs k then 1 else 0))[t] := by
    rw [List.getElem_drop]
    exact List.getElem?_eq_getElem _
  rcases Nat.eq_or_lt_of_le (show lowE xs k ≤ (lowE xs k + if hasE xs k then 1 else 0) + t by omega) with h0 | h0
  · rw [← h0] at e
    have hh : hasE xs k = false := by
      cases hc : hasE xs k with
      | false => rfl
      | true => rw [hc, if_pos rfl] at h0; omega
    have h1 := low_at e
    unfold hasE at hh
    rw [e] at hh
    have h2 := of_decide_eq_false hh
    rw [cmpI_zero] at h2
    rcases less_or k.toList ((xs.drop (lowE xs k + if hasE xs k then 1 else 0))[t]).name.toList with h3 | h3 | h3
    · exact h3
    · exact absurd (bytes_same h3).symm h2
    · unfold lessB at h1
      rw [h3] at h1
      cases h1
  · exact behind_less hr h0 e
theorem strike_mem {xs : List Ent} {k : ByteArray} {a : Ent} (hr : RisesE xs.length xs) (h : a ∈ xs.drop (lowE xs k + 1)) : lessB k a.name = true := by
  obtain ⟨t, ht, rfl⟩ := List.getElem_of_mem h
  rw [List.length_drop] at ht
  exact behind_less (i := lowE xs k + 1 + t) hr (by omega) (by rw [List.getElem_drop]; exact List.getElem?_eq_getElem _)

/-! An entry set. -/
theorem with_len (xs : List Ent) (x : Ent) : (withE xs x).length = if hasE xs x.name then xs.length else xs.length + 1 := by
  have h1 := low_le xs x.name
  unfold withE
  simp only [List.length_append, List.length_take, List.length_drop, List.length_singleton]
  cases hh : hasE xs x.name with
  | true => have h2 := has_low hh; simp; omega
  | false => simp; omega
theorem with_up {xs : List Ent} {x : Ent} (hr : RisesE xs.length xs) : RisesE (withE xs x).length (withE xs x) := by
  have hu := up_of hr
  apply of_up
  unfold Up at hu ⊢
  unfold withE
  rw [List.append_assoc, List.pairwise_append]
  refine ⟨hu.sublist (List.take_sublist _ _), ?_, fun a ha b hb => ?_⟩
  · rw [List.singleton_append, List.pairwise_cons]
    exact ⟨fun b hb => behind_mem hr hb, hu.sublist (List.drop_sublist _ _)⟩
  · rw [List.singleton_append, List.mem_cons] at hb
    rcases hb with rfl | hb
    · exact before_mem ha
    · exact less_trans _ _ _ (before_mem ha) (behind_mem hr hb)
theorem with_dir {xs : List Ent} {x : Ent} (hd : dirB xs = true) (hm : x.may = true) (hl : (withE xs x).length ≤ 32) : dirB (withE xs x) = true := by
  obtain ⟨-, h2, h3⟩ := dirB_of hd
  refine dirB_yes ⟨hl, fun z hz => ?_, with_up h3⟩
  unfold withE at hz
  rw [List.append_assoc, List.mem_append, List.mem_append, List.mem_singleton] at hz
  rcases hz with hz | rfl | hz
  · exact h2 z (List.mem_of_mem_take hz)
  · exact hm
  · exact h2 z (List.mem_of_mem_drop hz)
theorem with_find {xs : List Ent} {x : Ent} : findE (withE xs x) x.name = some x := by
  unfold findE withE
  rw [List.append_assoc, List.find?_append, List.find?_eq_none.2 fun a ha => by rw [name_ne (before_mem ha)]; decide]
  simp
/-- What an error says. -/
theorem set_cases {xs R : List Ent} {x : Ent} {y : Int} (hd : dirB xs = true) (h : setS xs x = (R, y)) :
    (y = 0 ∧ R = withE xs x ∧ x.may = true ∧ (withE xs x).length ≤ 32) ∨ (y = 1300 ∧ R = [] ∧ (x.may = false ∨ (hasE xs x.name = false ∧ 32 ≤ xs.length))) := by
  unfold setS at h
  rw [hd, Bool.true_and] at h
  split at h
  · rename_i hc
    rw [Bool.and_eq_true] at hc
    obtain ⟨rfl, rfl⟩ := Prod.mk.inj h
    exact .inl ⟨rfl, rfl, hc.1, of_decide_eq_true hc.2⟩
  · rename_i hc
    obtain ⟨rfl, rfl⟩ := Prod.mk.inj h
    refine .inr ⟨rfl, rfl, ?_⟩
    cases hm : x.may with
    | false => exact .inl rfl
    | true =>
      rw [hm, Bool.true_and] at hc
      have h1 : ¬ (withE xs x).length ≤ 32 := fun h => hc (decide_eq_true h)
      rw [with_len] at h1
      have h2 := (dirB_of hd).1
      cases hh : hasE xs x.name with
      | true => rw [hh, if_pos rfl] at h1; omega
      | false =>
        rw [hh, if_neg (by decide)] at h1
        exact .inr ⟨rfl, by omega⟩

/-! An entry struck. -/
theorem without_len {xs : List Ent} {k : ByteArray} (h : hasE xs k = true) : (withoutE xs k).length = xs.length - 1 := by
  have h1 := has_low h
  unfold withoutE
  simp only [List.length_append, List.length_take, List.length_drop]
  omega
theorem without_find {xs : List Ent} {k : ByteArray} (hr : RisesE xs.length xs) : findE (withoutE xs k) k = none := by
  unfold findE withoutE
  rw [List.find?_eq_none]
  intro a ha
  rw [List.mem_append] at ha
  rcases ha with ha | ha
  · rw [name_ne (before_mem ha)]; decide
  · rw [name_ne' (strike_mem hr ha)]; decide
theorem without_dir {xs : List Ent} {k : ByteArray} (hd : dirB xs = true) : dirB (withoutE xs k) = true := by
  obtain ⟨h1, h2, h3⟩ := dirB_of hd
  have hu := up_of h3
  have hsub : (withoutE xs k).Sublist xs := by
    unfold withoutE
    have h := List.Sublist.append (List.Sublist.refl (xs.take (lowE xs k))) (show (xs.drop (lowE xs k + 1)).Sublist (xs.drop (lowE xs k)) from by
      rw [← List.drop_drop]
      exact List.drop_sublist _ _)
    rw [List.take_append_drop] at h
    exact h
  exact dirB_yes ⟨Nat.le_trans hsub.length_le h1, fun z hz => h2 z (hsub.subset hz), of_up (hu.sublist hsub)⟩
theorem has_at {xs : List Ent} {i : Nat} {x : Ent} (hr : RisesE xs.length xs) (hx : xs[i]? = some x) : hasE xs x.name = true := by
  rw [← find_has hr]
  unfold findE
  rw [List.find?_isSome]
  obtain ⟨hi, rfl⟩ := List.getElem?_eq_some_iff.1 hx
  exact ⟨_, List.getElem_mem hi, by simp⟩

/-! Put, then got. -/
theorem ent_back {x : Ent} {r : ByteArray} (hm : x.may = true) : rentS (x.bytes ++ r) false = (x, r, false) := by
  obtain ⟨h1, h2, h3, h4, h5, h6⟩ := Ent.bounds hm
  have e : x.bytes ++ r = be (1 : Int).toNat x.name.size ++ x.name ++ (be (1 : Int).toNat x.owner.toNat ++ (be (1 : Int).toNat x.num.toNat ++ r)) := by
    unfold Ent.bytes
    simp only [append_assoc]
    rfl
  have t1 := rtextS_ok (readText_back x.name 1 (be (1 : Int).toNat x.owner.toNat ++ (be (1 : Int).toNat x.num.toNat ++ r)) (fits1 (by omega) (by omega)))
  have t2 := rnumS_be (x := x.owner) (size := 1) (r := be (1 : Int).toNat x.num.toNat ++ r) (fits1 (by omega) (by omega))
  have t3 := rnumS_be (x := x.num) (size := 1) (r := r) (fits1 (by omega) (by omega))
  rw [e]
  unfold rentS
  simp only [t1, t2, t3]
theorem entFrom_front {xs : List Ent} : ∀ {s : ByteArray}, entFrom s xs = s ++ entFrom ByteArray.empty xs := by
  induction xs with
  | nil => intro s; exact (append_empty s).symm
  | cons x xs ih =>
    intro s
    show entFrom (s ++ x.bytes) xs = s ++ entFrom (ByteArray.empty ++ x.bytes) xs
    rw [ih, ih (s := ByteArray.empty ++ x.bytes), empty_append, append_assoc]
theorem ent_cons (x : Ent) (xs : List Ent) : entFrom ByteArray.empty (x :: xs) = x.bytes ++ entFrom ByteArray.empty xs := by
  show entFrom (ByteArray.empty ++ x.bytes) xs = _
  rw [empty_append, entFrom_front]
theorem eitemsS_back {xs : List Ent} (hm : ∀ x ∈ xs, x.may = true) (r : ByteArray) : eitemsS xs.length (entFrom ByteArray.empty xs ++ r) false = (xs, r, false) := by
  induction xs with
  | nil => show (([] : List Ent), ByteArray.empty ++ r, false) = _; rw [empty_append]
  | cons x xs ih =>
    have h1 := ih (fun y hy => hm y (List.mem_cons_of_mem _ hy))
    have h2 := ent_back (r := entFrom ByteArray.empty xs ++ r) (hm x (List.mem_cons_self ..))
    rw [ent_cons, append_assoc, List.length_cons]
    simp [eitemsS, h1, h2]
theorem emark_back (r : ByteArray) : rmarkS 68 ((⟨#[68]⟩ : ByteArray) ++ r) false = (r, false) := by
  have h := rnumS_be (x := 68) (size := 1) (r := r) (by decide)
  rw [show be (1 : Int).toNat (68 : Int).toNat = (⟨#[68]⟩ : ByteArray) from one_be 68] at h
  unfold rmarkS
  rw [h]
  rfl
theorem egetS_eputS {xs : List Ent} (h : dirB xs = true) : egetS (entBytes xs) = (xs, 0) := by
  have hT := dirB_of h
  have hl := hT.1
  have e : entBytes xs = (⟨#[68]⟩ : ByteArray) ++ (be (1 : Int).toNat (xs.length : Int).toNat ++ (entFrom ByteArray.empty xs ++ ByteArray.empty)) := by
    unfold entBytes
    rw [entFrom_front, append_empty, show (⟨#[]⟩ : ByteArray) ++ ⟨#[68]⟩ = ⟨#[68]⟩ from empty_append _, append_assoc]
    rfl
  have h3 : eitemsS ((xs.length : Int)).toNat (entFrom ByteArray.empty xs ++ ByteArray.empty) false = (xs, ByteArray.empty, false) := eitemsS_back hT.2.1 _
  rw [e, egetS_eq (emark_back _) (rnumS_be (x := (xs.length : Int)) (size := 1) (fits1 (by omega) (by omega))) h3, h]
  rfl

end Go.Proofs.Ytapegklffglnoaa
