/- Merkle trees as plain functions on lists: whole trees of a log, the root over them. No function of the program is named here. -/
import Derived.Test.YtenfhmpjhbpkpaaSha
import Derived.Test.YtenfhmpjhbpkpaaBytes
namespace Go.Proofs.Ytenfhmpjhbpkpaa.Mth

/-- The greatest power of two below n (n above 1): by doubling from k on. -/
def cutFrom : Nat → Nat → Nat → Nat
  | 0, k, _ => k
  | f + 1, k, n => if 2 * k < n then cutFrom f (2 * k) n else k
def cut (n : Nat) : Nat := cutFrom n 1 n

theorem cutFrom_spec : ∀ (f k n : Nat), 1 ≤ k → k < n → n ≤ k * 2 ^ f → k ≤ cutFrom f k n ∧ cutFrom f k n < n ∧ n ≤ 2 * cutFrom f k n ∧ ∃ a, cutFrom f k n = k * 2 ^ a
  | 0, k, n, h1, h2, h3 => by
    simp at h3
    omega
  | f + 1, k, n, h1, h2, h3 => by
    unfold cutFrom
    by_cases h : 2 * k < n
    · rw [if_pos h]
      have hp : n ≤ 2 * k * 2 ^ f := by
        rw [Nat.pow_succ] at h3
        have e : 2 * k * 2 ^ f = k * (2 ^ f * 2) := by rw [Nat.mul_comm 2 k, Nat.mul_assoc, Nat.mul_comm 2]
        rw [e]
        exact h3
      obtain ⟨i1, i2, i3, a, i4⟩ := cutFrom_spec f (2 * k) n (by omega) h hp
      refine ⟨by omega, i2, i3, a + 1, ?_⟩
      rw [i4, Nat.pow_succ, Nat.mul_comm 2 k, Nat.mul_assoc, Nat.mul_comm 2]
    · rw [if_neg h]
      exact ⟨Nat.le_refl _, h2, by omega, 0, by simp⟩

theorem lt_pow (n : Nat) : n < 2 ^ n := Nat.lt_two_pow_self

theorem cut_spec (n : Nat) (h : 2 ≤ n) : 1 ≤ cut n ∧ cut n < n ∧ n ≤ 2 * cut n ∧ ∃ a, cut n = 2 ^ a := by
  obtain ⟨h1, h2, h3, a, h4⟩ := cutFrom_spec n 1 n (by decide) (by omega) (by rw [Nat.one_mul]; exact Nat.le_of_lt (lt_pow n))
  exact ⟨h1, h2, h3, a, by rw [Nat.one_mul] at h4; exact h4⟩

theorem pow_le_pow {a b : Nat} (h : a ≤ b) : 2 ^ a ≤ 2 ^ b := Nat.pow_le_pow_right (by decide) h

/-- It is the only one. -/
theorem cut_eq (n a : Nat) (h1 : 2 ^ a < n) (h2 : n ≤ 2 * 2 ^ a) : cut n = 2 ^ a := by
  have h0 : 1 ≤ 2 ^ a := Nat.pow_pos (by decide)
  obtain ⟨-, c1, c2, b, hb⟩ := cut_spec n (by omega)
  rw [hb] at c1 c2 ⊢
  rcases Nat.lt_trichotomy a b with h | h | h
  · have := pow_le_pow (show a + 1 ≤ b from h)
    rw [Nat.pow_succ] at this
    omega
  · rw [h]
  · have := pow_le_pow (show b + 1 ≤ a from h)
    rw [Nat.pow_succ] at this
    omega

variable {α : Type} (j : α → α → α)

/-- Two by two. -/
def pairs : List α → List α
  | a :: b :: l => j a b :: pairs l
  | _ => []

/-- The roots of whole trees that hold a log, the greatest first: one for each bit 1 of its size. -/
def whole : Nat → List α → List α
  | 0, _ => []
  | f + 1, l => if l.length = 0 then [] else if l.length % 2 = 0 then whole f (pairs j l) else whole f (pairs j l) ++ (l.getLast?).toList

theorem pairs_length : ∀ l : List α, (pairs j l).length = l.length / 2
  | [] => by simp [pairs]
  | [_] => by simp [pairs]
  | a :: b :: l => by
    have ih := pairs_length l
    simp only [pairs, List.length_cons, ih]
    omega

theorem pairs_append : ∀ (l m : List α), l.length % 2 = 0 → pairs j (l ++ m) = pairs j l ++ pairs j m
  | [], m, _ => rfl
  | [_], m, h => by simp at h
  | a :: b :: l, m, h => by
    have ih := pairs_append l m (by simp at h; omega)
    simp only [List.cons_append, pairs, ih]

theorem pairs_snoc (l : List α) (x : α) (h : l.length % 2 = 0) : pairs j (l ++ [x]) = pairs j l := by
  rw [pairs_append j l _ h]
  simp [pairs]

/-- Enough fuel is enough. -/
theorem whole_fuel : ∀ (f g : Nat) (l : List α), l.length ≤ f → l.length ≤ g → whole j f l = whole j g l
  | 0, g, l, hf, _ => by
    have h0 : l.length = 0 := by omega
    cases g with
    | zero => rfl
    | succ g => simp only [whole, h0, if_true]
  | f + 1, 0, l, _, hg => by
    have h0 : l.length = 0 := by omega
    simp only [whole, h0, if_true]
  | f + 1, g + 1, l, hf, hg => by
    have hp := pairs_length j l
    by_cases h0 : l.length = 0
    · simp only [whole, h0, if_true]
    · have ih := whole_fuel f g (pairs j l) (by omega) (by omega)
      simp only [whole, if_neg h0, ih]

def wholes (l : List α) : List α := whole j l.length l

theorem wholes_even (l : List α) (h : l.length % 2 = 0) : wholes j l = wholes j (pairs j l) := by
  unfold wholes
  by_cases h0 : l.length = 0
  · have hl : l = [] := List.length_eq_zero_iff.1 h0
    subst hl
    rfl
  · obtain ⟨f, hf⟩ : ∃ f, l.length = f + 1 := ⟨l.length - 1, by omega⟩
    have hp := pairs_length j l
    rw [whole_fuel j l.length (f + 1) l (Nat.le_refl _) (by omega)]
    simp only [whole, if_neg h0, h, if_true]
    exact whole_fuel j _ _ _ (by omega) (Nat.le_refl _)

theorem wholes_odd (l : List α) (x : α) (h : l.length % 2 = 0) : wholes j (l ++ [x]) = wholes j l ++ [x] := by
  rw [wholes_even j l h]
  unfold wholes
  have hl : (l ++ [x]).length = l.length + 1 := by simp
  have hp := pairs_length j l
  rw [hl]
  have h1 : ¬ (l ++ [x]).length = 0 := by omega
  have h2 : ¬ (l ++ [x]).length % 2 = 0 := by omega
  simp only [whole, if_neg h1, if_neg h2, pairs_snoc j l x h, List.getLast?_concat, Option.toList_some]
  congr 1
  exact whole_fuel j _ _ _ (by omega) (Nat.le_refl _)

/-- What Append does: as in counting by ones, each bit 1 at the end of the size carries. -/
def carry : Nat → Nat → List α → α → List α
  | 0, _, w, x => w ++ [x]
  | f + 1, r, w, x => if r % 2 = 1 then match w.getLast? with
      | some y => carry f (r / 2) w.dropLast (j y x)
      | none => w ++ [x]
    else w ++ [x]

theorem carry_wholes : ∀ (f : Nat) (l : List α) (x : α), l.length ≤ f → carry j f l.length (wholes j l) x = wholes j (l ++ [x])
  | f, l, x, hf => by
    by_cases h : l.length % 2 = 0
    · rw [wholes_odd j l x h]
      cases f with
      | zero => rfl
      | succ f =>
        have h2 : ¬ l.length % 2 = 1 := by omega
        simp only [carry, if_neg h2]
    · obtain ⟨m, y, hm⟩ : ∃ m y, l = m ++ [y] := by
        have hne : l ≠ [] := fun e => by rw [e] at h; simp at h
        exact ⟨l.dropLast, l.getLast hne, (List.dropLast_concat_getLast hne).symm⟩
      subst hm
      have hml : (m ++ [y]).length = m.length + 1 := by simp
      have hme : m.length % 2 = 0 := by omega
      have hp := pairs_length j m
      cases f with
      | zero => omega
      | succ f =>
        have h2 : (m ++ [y]).length % 2 = 1 := by omega
        have ih := carry_wholes f (pairs j m) (j y x) (by omega)
        have hd : (m ++ [y]).length / 2 = (pairs j m).length := by omega
        have hev : (m ++ [y] ++ [x]).length % 2 = 0 := by simp; omega
        have e1 : pairs j (m ++ [y] ++ [x]) = pairs j m ++ [j y x] := by
          rw [List.append_assoc, pairs_append j m _ hme]
          rfl
        simp only [carry, h2, if_true]
        rw [wholes_odd j m y hme]
        simp only [List.getLast?_concat, List.dropLast_concat]
        rw [hd, wholes_even j m hme, ih, wholes_even j (m ++ [y] ++ [x]) hev, e1]

/-- The root of a log of at least one leaf. -/
def mth : Nat → List α → Option α
  | 0, l => l.head?
  | f + 1, l => if l.length ≤ 1 then l.head? else match mth f (l.take (cut l.length)), mth f (l.drop (cut l.length)) with
      | some a, some b => some (j a b)
      | _, _ => none

def root (l : List α) : Option α := mth j l.length l

theorem mth_fuel : ∀ (f g : Nat) (l : List α), l.length ≤ f → l.length ≤ g → mth j f l = mth j g l
  | 0, g, l, hf, _ => by
    cases g with
    | zero => rfl
    | succ g =>
      have h0 : l.length ≤ 1 := by omega
      simp only [mth, if_pos h0]
  | f + 1, 0, l, _, hg => by
    have h0 : l.length ≤ 1 := by omega
    simp only [mth, if_pos h0]
  | f + 1, g + 1, l, hf, hg => by
    by_cases h0 : l.length ≤ 1
    · simp only [mth, if_pos h0]
    · obtain ⟨c1, c2, -, -⟩ := cut_spec l.length (by omega)
      have i1 := mth_fuel f g (l.take (cut l.length)) (by rw [List.length_take]; omega) (by rw [List.length_take]; omega)
      have i2 := mth_fuel f g (l.drop (cut l.length)) (by rw [List.length_drop]; omega) (by rw [List.length_drop]; omega)
      simp only [mth, if_neg h0, i1, i2]

theorem root_one (x : α) : root j [x] = some x := by
  unfold root mth
  simp

theorem root_two (l : List α) (h : 2 ≤ l.length) : root j l = match root j (l.take (cut l.length)), root j (l.drop (cut l.length)) with
      | some a, some b => some (j a b)
      | _, _ => none := by
  obtain ⟨c1, c2, -, -⟩ := cut_spec l.length h
  obtain ⟨f, hf⟩ : ∃ f, l.length = f + 1 := ⟨l.length - 1, by omega⟩
  have e1 : root j l = mth j (f + 1) l := mth_fuel j _ _ l (Nat.le_refl _) (by omega)
  have e2 : root j (l.take (cut l.length)) = mth j f (l.take (cut l.length)) := mth_fuel j _ _ _ (Nat.le_refl _) (by rw [List.length_take]; omega)
  have e3 : root j (l.drop (cut l.length)) = mth j f (l.drop (cut l.length)) := mth_fuel j _ _ _ (Nat.le_refl _) (by rw [List.length_drop]; omega)
  rw [e1, e2, e3]
  have h0 : ¬ l.length ≤ 1 := by omega
  simp only [mth, if_neg h0]

theorem root_some : ∀ (n : Nat) (l : List α), l.length = n → 1 ≤ n → ∃ r, root j l = some r := by
  intro n
  induction n using Nat.strongRecOn with
  | ind n ih =>
    intro l hl hn
    by_cases h : 2 ≤ n
    · obtain ⟨c1, c2, -, -⟩ := cut_spec l.length (by omega)
      obtain ⟨a, ha⟩ := ih _ (by omega) (l.take (cut l.length)) (by rw [List.length_take]; exact Nat.min_eq_left (by omega)) c1
      obtain ⟨b, hb⟩ := ih (l.length - cut l.length) (by omega) (l.drop (cut l.length)) (by rw [List.length_drop]) (by omega)
      exact ⟨j a b, by rw [root_two j l (by omega), ha, hb]⟩
    · obtain ⟨x, hx⟩ : ∃ x, l = [x] := List.length_eq_one_iff.1 (by omega)
      exact ⟨x, by rw [hx, root_one]⟩

/-- Twice as many, two by two. -/
theorem cut_half (n : Nat) (h : 2 ≤ n) : cut (2 * n) = 2 * cut n := by
  obtain ⟨-, c1, c2, a, ha⟩ := cut_spec n h
  rw [ha] at c1 c2
  have := cut_eq (2 * n) (a + 1) (by rw [Nat.pow_succ]; omega) (by rw [Nat.pow_succ]; omega)
  rw [this, ha, Nat.pow_succ, Nat.mul_comm]

theorem pairs_take : ∀ (l : List α) (k : Nat), l.length % 2 = 0 → 2 * k ≤ l.length → pairs j (l.take (2 * k)) = (pairs j l).take k ∧ pairs j (l.drop (2 * k)) = (pairs j l).drop k := by
  intro l k h hk
  have hl : (l.take (2 * k)).length = 2 * k := by rw [List.length_take]; omega
  have e := pairs_append j (l.take (2 * k)) (l.drop (2 * k)) (by rw [hl]; omega)
  rw [List.take_append_drop] at e
  have hp : (pairs j (l.take (2 * k))).length = k := by rw [pairs_length, hl]; omega
  rw [e]
  exact ⟨(List.take_left' hp).symm, (List.drop_left' hp).symm⟩

theorem root_even : ∀ (n : Nat) (l : List α), l.length = 2 * n → 1 ≤ n → root j l = root j (pairs j l) := by
  intro n
  induction n using Nat.strongRecOn with
  | ind n ih =>
    intro l hl hn
    have hp := pairs_length j l
    by_cases h : 2 ≤ n
    · obtain ⟨c1, c2, c3, -⟩ := cut_spec n h
      have hc := cut_half n h
      have hpn : (pairs j l).length = n := by omega
      obtain ⟨t1, t2⟩ := pairs_take j l (cut n) (by omega) (by omega)
      have i1 := ih (cut n) c2 (l.take (2 * cut n)) (by rw [List.length_take]; omega) c1
      have i2 := ih (n - cut n) (by omega) (l.drop (2 * cut n)) (by rw [List.length_drop]; omega) (by omega)
      rw [root_two j l (by omega), root_two j (pairs j l) (by omega), hl, hpn, hc, i1, i2, t1, t2]
    · obtain rfl : n = 1 := by omega
      match l, hl with
      | [a, b], _ =>
        have hc : cut 2 = 1 := by decide
        rw [root_two j [a, b] (by simp)]
        simp only [List.length_cons, List.length_nil, hc, List.take_succ_cons, List.take_zero, List.drop_succ_cons, List.drop_zero, root_one, pairs]

/-- The root over whole trees, the last one first. -/
def over : List α → Option α
  | [] => none
  | [x] => some x
  | a :: l => (over l).map (j a)

theorem over_cons (a : α) (l : List α) (h : l ≠ []) : over j (a :: l) = (over j l).map (j a) := by
  cases l with
  | nil => exact absurd rfl h
  | cons b l => rfl

/-- The greatest whole tree, and the others. -/
theorem wholes_top : ∀ (n : Nat) (l : List α), l.length = n → ∀ a, 2 ^ a ≤ n → n < 2 * 2 ^ a → ∃ r, root j (l.take (2 ^ a)) = some r ∧ wholes j l = r :: wholes j (l.drop (2 ^ a)) := by
  intro n
  induction n using Nat.strongRecOn with
  | ind n ih =>
    intro l hl a h1 h2
    cases a with
    | zero =>
      obtain rfl : n = 1 := by simp at h1 h2; omega
      obtain ⟨x, rfl⟩ : ∃ x, l = [x] := List.length_eq_one_iff.1 hl
      refine ⟨x, root_one j x, ?_⟩
      have := wholes_odd j [] x rfl
      rw [List.nil_append] at this
      rw [this]
      rfl
    | succ a =>
      have h0 : 1 ≤ 2 ^ a := Nat.pow_pos (by decide)
      rw [Nat.pow_succ] at h1 h2
      have e2 : 2 ^ (a + 1) = 2 * 2 ^ a := by rw [Nat.pow_succ, Nat.mul_comm]
      have key : ∀ m : List α, m.length % 2 = 0 → m.length / 2 < n → 2 ^ a ≤ m.length / 2 → m.length / 2 < 2 * 2 ^ a → ∃ r, root j (m.take (2 ^ (a + 1))) = some r ∧ wholes j m = r :: wholes j (m.drop (2 ^ (a + 1))) := by
        intro m hm q1 q2 q3
        have hp := pairs_length j m
        obtain ⟨r, r1, r2⟩ := ih (m.length / 2) q1 (pairs j m) hp a q2 q3
        obtain ⟨t1, t2⟩ := pairs_take j m (2 ^ a) hm (by omega)
        refine ⟨r, ?_, ?_⟩
        · rw [e2, root_even j (2 ^ a) (m.take (2 * 2 ^ a)) (by rw [List.length_take]; omega) h0, t1, r1]
        · rw [wholes_even j m hm, r2, e2, wholes_even j (m.drop (2 * 2 ^ a)) (by rw [List.length_drop]; omega), t2]
      by_cases he : n % 2 = 0
      · exact key l (by omega) (by omega) (by omega) (by omega)
      · obtain ⟨m, y, hm⟩ : ∃ m y, l = m ++ [y] := by
          have hne : l ≠ [] := fun e => by rw [e] at hl; simp at hl; omega
          exact ⟨l.dropLast, l.getLast hne, (List.dropLast_concat_getLast hne).symm⟩
        subst hm
        have hml : (m ++ [y]).length = m.length + 1 := by simp
        obtain ⟨r, r1, r2⟩ := key m (by omega) (by omega) (by omega) (by omega)
        have hle : 2 ^ (a + 1) ≤ m.length := by omega
        refine ⟨r, ?_, ?_⟩
        · rw [List.take_append_of_le_length hle, r1]
        · rw [wholes_odd j m y (by omega), r2, List.drop_append_of_le_length hle, wholes_odd j (m.drop (2 ^ (a + 1))) y (by rw [List.length_drop]; omega)]
          rfl

theorem top_pow (n : Nat) (h : 1 ≤ n) : ∃ a, 2 ^ a ≤ n ∧ n < 2 * 2 ^ a := by
  by_cases h1 : n = 1
  · exact ⟨0, by omega, by omega⟩
  · obtain ⟨c0, c1, c2, a, ha⟩ := cut_spec n (by omega)
    rw [ha] at c1 c2
    by_cases h2 : n = 2 * 2 ^ a
    · exact ⟨a + 1, by rw [Nat.pow_succ]; omega, by rw [Nat.pow_succ]; omega⟩
    · exact ⟨a, by omega, by omega⟩

theorem wholes_nil : wholes j ([] : List α) = [] := rfl

theorem wholes_ne (l : List α) (h : 1 ≤ l.length) : wholes j l ≠ [] := by
  obtain ⟨a, h1, h2⟩ := top_pow l.length h
  obtain ⟨r, -, e⟩ := wholes_top j l.length l rfl a h1 h2
  rw [e]
  exact List.cons_ne_nil _ _

/-- The root over the whole trees is the log's. -/
theorem over_wholes : ∀ (n : Nat) (l : List α), l.length = n → 1 ≤ n → over j (wholes j l) = root j l := by
  intro n
  induction n using Nat.strongRecOn with
  | ind n ih =>
    intro l hl hn
    obtain ⟨a, h1, h2⟩ := top_pow n hn
    have h0 : 1 ≤ 2 ^ a := Nat.pow_pos (by decide)
    obtain ⟨r, r1, r2⟩ := wholes_top j n l hl a h1 h2
    by_cases he : n = 2 ^ a
    · rw [r2, List.drop_of_length_le (by omega), wholes_nil]
      rw [List.take_of_length_le (by omega)] at r1
      rw [r1]
      rfl
    · have hd : (l.drop (2 ^ a)).length = n - 2 ^ a := by rw [List.length_drop, hl]
      have i := ih (n - 2 ^ a) (by omega) (l.drop (2 ^ a)) hd (by omega)
      obtain ⟨s, hs⟩ := root_some j (n - 2 ^ a) (l.drop (2 ^ a)) hd (by omega)
      have hc : cut l.length = 2 ^ a := by rw [hl]; exact cut_eq n a (by omega) (by omega)
      rw [r2, over_cons j r _ (wholes_ne j _ (by omega)), i, hs, root_two j l (by omega), hc, r1, hs]
      rfl

end Go.Proofs.Ytenfhmpjhbpkpaa.Mth
