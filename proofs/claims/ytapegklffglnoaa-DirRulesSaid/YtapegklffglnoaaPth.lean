/- Paths as plain lists of bytes: names between slashes. No function of the program is named here. -/
import Derived.Test.YtapegklffglnoaaBytes
namespace Go.Proofs.Ytapegklffglnoaa.Pth

/-- What stands between the slashes. -/
def pieces : List UInt8 → List (List UInt8)
  | [] => [[]]
  | c :: cs => if c = 47 then [] :: pieces cs else match pieces cs with
    | [] => [[c]]
    | p :: ps => (c :: p) :: ps

theorem pieces_ne : ∀ l, pieces l ≠ []
  | [] => by simp [pieces]
  | c :: cs => by
    have ih := pieces_ne cs
    unfold pieces
    split
    · simp
    · split <;> simp

theorem pieces_none : ∀ (l : List UInt8), (∀ c ∈ l, c ≠ 47) → pieces l = [l]
  | [], _ => rfl
  | c :: cs, h => by
    have ih := pieces_none cs (fun x hx => h x (List.mem_cons_of_mem _ hx))
    have hc := h c (List.mem_cons_self ..)
    unfold pieces
    rw [if_neg hc, ih]

theorem pieces_some : ∀ (a b : List UInt8), (∀ c ∈ a, c ≠ 47) → pieces (a ++ 47 :: b) = a :: pieces b
  | [], b, _ => by simp [pieces]
  | c :: cs, b, h => by
    have ih := pieces_some cs b (fun x hx => h x (List.mem_cons_of_mem _ hx))
    have hc := h c (List.mem_cons_self ..)
    rw [List.cons_append, pieces, if_neg hc, ih]

theorem pieces_short : ∀ l, (pieces l).length ≤ l.length + 1
  | [] => by simp [pieces]
  | c :: cs => by
    have ih := pieces_short cs
    unfold pieces
    split
    · simp; omega
    · split
      · simp
      · rename_i h
        rw [h] at ih
        simp at ih ⊢
        omega

/-- No piece holds a slash. -/
theorem pieces_clean : ∀ (l p : List UInt8), p ∈ pieces l → ∀ c ∈ p, c ≠ 47
  | [], p, hp, c, hc => by
    simp [pieces] at hp
    subst hp
    cases hc
  | d :: ds, p, hp, c, hc => by
    have ih := pieces_clean ds
    unfold pieces at hp
    by_cases hd : d = 47
    · rw [if_pos hd] at hp
      rcases List.mem_cons.1 hp with rfl | hp
      · cases hc
      · exact ih p hp c hc
    · rw [if_neg hd] at hp
      split at hp
      · simp at hp
        subst hp
        simp at hc
        subst hc
        exact hd
      · rename_i q qs hq
        rw [hq] at ih
        rcases List.mem_cons.1 hp with rfl | hp
        · rcases List.mem_cons.1 hc with rfl | hc
          · exact hd
          · exact ih q (List.mem_cons_self ..) c hc
        · exact ih p (List.mem_cons_of_mem _ hp) c hc

/-- The text of names, a slash ahead of each. -/
def path (ps : List (List UInt8)) : List UInt8 := ps.flatMap fun p => 47 :: p

theorem pieces_path : ∀ (p : List UInt8) (ps : List (List UInt8)), (∀ q ∈ p :: ps, ∀ c ∈ q, c ≠ 47) → pieces (p ++ path ps) = p :: ps
  | p, [], h => by
    have e : p ++ path [] = p := by simp [path]
    rw [e]
    exact pieces_none p (h p (List.mem_cons_self ..))
  | p, q :: qs, h => by
    have ih := pieces_path q qs (fun x hx => h x (List.mem_cons_of_mem _ hx))
    have e : path (q :: qs) = 47 :: (q ++ path qs) := by simp [path]
    rw [e, pieces_some p _ (h p (List.mem_cons_self ..)), ih]

theorem path_pieces : ∀ l : List UInt8, path (pieces l) = 47 :: l
  | [] => by simp [pieces, path]
  | c :: cs => by
    have ih := path_pieces cs
    unfold pieces
    split
    · rename_i h
      subst h
      simp only [path, List.flatMap_cons] at ih ⊢
      rw [ih]
      rfl
    · split
      · rename_i h
        exact absurd h (pieces_ne cs)
      · rename_i h
        rw [h] at ih
        simp only [path, List.flatMap_cons, List.cons_append, List.cons.injEq, true_and] at ih ⊢
        rw [ih]

/-- May a text be a name? -/
def nameOk (l : List UInt8) : Bool := decide (1 ≤ l.length ∧ l.length ≤ 24 ∧ l ≠ [46] ∧ l ≠ [46, 46] ∧ ∀ c ∈ l, c ≠ 47 ∧ c ≠ 0)

/-- The names of a path. -/
def split (l : List UInt8) : Option (List (List UInt8)) :=
  if l.length ≤ 128 ∧ l.head? = some 47 then
    (if l = [47] then some [] else if (∀ p ∈ pieces l.tail, nameOk p = true) ∧ (pieces l.tail).length ≤ 8 then some (pieces l.tail) else none)
  else none

end Go.Proofs.Ytapegklffglnoaa.Pth
