/- Merkle trees as plain functions on lists: whole trees of a log, the root over them. No function of the program is named here.
   Proofs over Merkle trees as plain functions on lists: the way down, inclusion paths. No function of the program is named here. -/
import Derived.Test.YtenfhmpjhbpkpaaSha
import Derived.Test.YtenfhmpjhbpkpaaBytes
namespace Go.Proofs.Ytenfhmpjhbpkpaa.Mth

/-- The greatest power of two below n (n above 1): by doubling from k on. -/
def cutFrom : Nat → Nat → Nat → Nat
  | 0, k, _ => k
  | f + 1, k, n => if 2 * k < n then cutFrom f (2 * k) n else k
def cut (n : Nat) : Nat := cutFrom n 1 n

theorem cutFrom_spec : ∀ (f k n : Nat), 1 ≤ k → k < n → n ≤ k * 2 ^ f → k ≤ cutFrom f k n ∧ cutFrom f k n < n ∧ n ≤ 2 * cutFrom f k n ∧ ∃ a, cutFrom f k n = k * 2 ^ a
  | 0, k, n, h1, h2, h3 => by
    simp at h3
    omega
  | f + 1, k, n, h1, h2, h3 => by
    unfold cutFrom
    by_cases h : 2 * k < n
    · rw [if_pos h]
      have hp : n ≤ 2 * k * 2 ^ f := by
        rw [Nat.pow_succ] at h3
        have e : 2 * k * 2 ^ f = k * (2 ^ f * 2) := by rw [Nat.mul_comm 2 k, Nat.mul_assoc, Nat.mul_comm 2]
        rw [e]
        exact h3
      obtain ⟨i1, i2, i3, a, i4⟩ := cutFrom_spec f (2 * k) n (by omega) h hp
      refine ⟨by omega, i2, i3, a + 1, ?_⟩
      rw [i4, Nat.pow_succ, Nat.mul_comm 2 k, Nat.mul_assoc, Nat.mul_comm 2]
    · rw [if_neg h]
      exact ⟨Nat.le_refl _, h2, by omega, 0, by simp⟩

theorem lt_pow (n : Nat) : n < 2 ^ n := Nat.lt_two_pow_self

theorem cut_spec (n : Nat) (h : 2 ≤ n) : 1 ≤ cut n ∧ cut n < n ∧ n ≤ 2 * cut n ∧ ∃ a, cut n = 2 ^ a := by
  obtain ⟨h1, h2, h3, a, h4⟩ := cutFrom_spec n 1 n (by decide) (by omega) (by rw [Nat.one_mul]; exact Nat.le_of_lt (lt_pow n))
  exact ⟨h1, h2, h3, a, by rw [Nat.one_mul] at h4; exact h4⟩

theorem pow_le_pow {a b : Nat} (h : a ≤ b) : 2 ^ a ≤ 2 ^ b := Nat.pow_le_pow_right (by decide) h

/-- It is the only one. -/
theorem cut_eq (n a : Nat) (h1 : 2 ^ a < n) (h2 : n ≤ 2 * 2 ^ a) : cut n = 2 ^ a := by
  have h0 : 1 ≤ 2 ^ a := Nat.pow_pos (by decide)
  obtain ⟨-, c1, c2, b, hb⟩ := cut_spec n (by omega)
  rw [hb] at c1 c2 ⊢
  rcases Nat.lt_trichotomy a b with h | h | h
  · have := pow_le_pow (show a + 1 ≤ b from h)
    rw [Nat.pow_succ] at this
    omega
  · rw [h]
  · have := pow_le_pow (show b + 1 ≤ a from h)
    rw [Nat.pow_succ] at this
    omega

variable {α : Type} (j : α → α → α)

/-- Two by two. -/
def pairs : List α → List α
  | a :: b :: l => j a b :: pairs l
  | _ => []

/-- The roots of whole trees that hold a log, the greatest first: one for each bit 1 of its size. -/
def whole : Nat → List α → List α
  | 0, _ => []
  | f + 1, l => if l.length = 0 then [] else if l.length % 2 = 0 then whole f (pairs j l) else whole f (pairs j l) ++ (l.getLast?).toList

theorem pairs_length : ∀ l : List α, (pairs j l).length = l.length / 2
  | [] => by simp [pairs]
  | [_] => by simp [pairs]
  | a :: b :: l => by
    have ih := pairs_length l
    simp only [pairs, List.length_cons, ih]
    omega

theorem pairs_append : ∀ (l m : List α), l.length % 2 = 0 → pairs j (l ++ m) = pairs j l ++ pairs j m
  | [], m, _ => rfl
  | [_], m, h => by simp at h
  | a :: b :: l, m, h => by
    have ih := pairs_append l m (by simp at h; omega)
    simp only [List.cons_append, pairs, ih]

theorem pairs_snoc (l : List α) (x : α) (h : l.length % 2 = 0) : pairs j (l ++ [x]) = pairs j l := by
  rw [pairs_append j l _ h]
  simp [pairs]

/-- Enough fuel is enough. -/
theorem whole_fuel : ∀ (f g : Nat) (l : List α), l.length ≤ f → l.length ≤ g → whole j f l = whole j g l
  | 0, g, l, hf, _ => by
    have h0 : l.length = 0 := by omega
    cases g with
    | zero => rfl
    | succ g => simp only [whole, h0, if_true]
  | f + 1, 0, l, _, hg => by
    have h0 : l.length = 0 := by omega
    simp only [whole, h0, if_true]
  | f + 1, g + 1, l, hf, hg => by
    have hp := pairs_length j l
    by_cases h0 : l.length = 0
    · simp only [whole, h0, if_true]
    · have ih := whole_fuel f g (pairs j l) (by omega) (by omega)
      simp only [whole, if_neg h0, ih]

def wholes (l : List α) : List α := whole j l.length l

theorem wholes_even (l : List α) (h : l.length % 2 = 0) : wholes j l = wholes j (pairs j l) := by
  unfold wholes
  by_cases h0 : l.length = 0
  · have hl : l = [] := List.length_eq_zero_iff.1 h0
    subst hl
    rfl
  · obtain ⟨f, hf⟩ : ∃ f, l.length = f + 1 := ⟨l.length - 1, by omega⟩
    have hp := pairs_length j l
    rw [whole_fuel j l.length (f + 1) l (Nat.le_refl _) (by omega)]
    simp only [whole, if_neg h0, h, if_true]
    exact whole_fuel j _ _ _ (by omega) (Nat.le_refl _)

theorem wholes_odd (l : List α) (x : α) (h : l.length % 2 = 0) : wholes j (l ++ [x]) = wholes j l ++ [x] := by
  rw [wholes_even j l h]
  unfold wholes
  have hl : (l ++ [x]).length = l.length + 1 := by simp
  have hp := pairs_length j l
  rw [hl]
  have h1 : ¬ (l ++ [x]).length = 0 := by omega
  have h2 : ¬ (l ++ [x]).length % 2 = 0 := by omega
  simp only [whole, if_neg h1, if_neg h2, pairs_snoc j l x h, List.getLast?_concat, Option.toList_some]
  congr 1
  exact whole_fuel j _ _ _ (by omega) (Nat.le_refl _)

/-- What Append does: as in counting by ones, each bit 1 at the end of the size carries. -/
def carry : Nat → Nat → List α → α → List α
  | 0, _, w, x => w ++ [x]
  | f + 1, r, w, x => if r % 2 = 1 then match w.getLast? with
      | some y => carry f (r / 2) w.dropLast (j y x)
      | none => w ++ [x]
    else w ++ [x]

theorem carry_wholes : ∀ (f : Nat) (l : List α) (x : α), l.length ≤ f → carry j f l.length (wholes j l) x = wholes j (l ++ [x])
  | f, l, x, hf => by
    by_cases h : l.length % 2 = 0
    · rw [wholes_odd j l x h]
      cases f with
      | zero => rfl
      | succ f =>
        have h2 : ¬ l.length % 2 = 1 := by omega
        simp only [carry, if_neg h2]
    · obtain ⟨m, y, hm⟩ : ∃ m y, l = m ++ [y] := by
        have hne : l ≠ [] := fun e => by rw [e] at h; simp at h
        exact ⟨l.dropLast, l.getLast hne, (List.dropLast_concat_getLast hne).symm⟩
      subst hm
      have hml : (m ++ [y]).length = m.length + 1 := by simp
      have hme : m.length % 2 = 0 := by omega
      have hp := pairs_length j m
      cases f with
      | zero => omega
      | succ f =>
        have h2 : (m ++ [y]).length % 2 = 1 := by omega
        have ih := carry_wholes f (pairs j m) (j y x) (by omega)
        have hd : (m ++ [y]).length / 2 = (pairs j m).length := by omega
        have hev : (m ++ [y] ++ [x]).length % 2 = 0 := by simp; omega
        have e1 : pairs j (m ++ [y] ++ [x]) = pairs j m ++ [j y x] := by
          rw [List.append_assoc, pairs_append j m _ hme]
          rfl
        simp only [carry, h2, if_true]
        rw [wholes_odd j m y hme]
        simp only [List.getLast?_concat, List.dropLast_concat]
        rw [hd, wholes_even j m hme, ih, wholes_even j (m ++ [y] ++ [x]) hev, e1]

/-- The root of a log of at least one leaf. -/
def mth : Nat → List α → Option α
  | 0, l => l.head?
  | f + 1, l => if l.length ≤ 1 then l.head? else match mth f (l.take (cut l.length)), mth f (l.drop (cut l.length)) with
      | some a, some b => some (j a b)
      | _, _ => none

def root (l : List α) : Option α := mth j l.length l

theorem mth_fuel : ∀ (f g : Nat) (l : List α), l.length ≤ f → l.length ≤ g → mth j f l = mth j g l
  | 0, g, l, hf, _ => by
    cases g with
    | zero => rfl
    | succ g =>
      have h0 : l.length ≤ 1 := by omega
      simp only [mth, if_pos h0]
  | f + 1, 0, l, _, hg => by
    have h0 : l.length ≤ 1 := by omega
    simp only [mth, if_pos h0]
  | f + 1, g + 1, l, hf, hg => by
    by_cases h0 : l.length ≤ 1
    · simp only [mth, if_pos h0]
    · obtain ⟨c1, c2, -, -⟩ := cut_spec l.length (by omega)
      have i1 := mth_fuel f g (l.take (cut l.length)) (by rw [List.length_take]; omega) (by rw [List.length_take]; omega)
      have i2 := mth_fuel f g (l.drop (cut l.length)) (by rw [List.length_drop]; omega) (by rw [List.length_drop]; omega)
      simp only [mth, if_neg h0, i1, i2]

theorem root_one (x : α) : root j [x] = some x := by
  unfold root mth
  simp

theorem root_two (l : List α) (h : 2 ≤ l.length) : root j l = match root j (l.take (cut l.length)), root j (l.drop (cut l.length)) with
      | some a, some b => some (j a b)
      | _, _ => none := by
  obtain ⟨c1, c2, -, -⟩ := cut_spec l.length h
  obtain ⟨f, hf⟩ : ∃ f, l.length = f + 1 := ⟨l.length - 1, by omega⟩
  have e1 : root j l = mth j (f + 1) l := mth_fuel j _ _ l (Nat.le_refl _) (by omega)
  have e2 : root j (l.take (cut l.length)) = mth j f (l.take (cut l.length)) := mth_fuel j _ _ _ (Nat.le_refl _) (by rw [List.length_take]; omega)
  have e3 : root j (l.drop (cut l.length)) = mth j f (l.drop (cut l.length)) := mth_fuel j _ _ _ (Nat.le_refl _) (by rw [List.length_drop]; omega)
  rw [e1, e2, e3]
  have h0 : ¬ l.length ≤ 1 := by omega
  simp only [mth, if_neg h0]

theorem root_some : ∀ (n : Nat) (l : List α), l.length = n → 1 ≤ n → ∃ r, root j l = some r := by
  intro n
  induction n using Nat.strongRecOn with
  | ind n ih =>
    intro l hl hn
    by_cases h : 2 ≤ n
    · obtain ⟨c1, c2, -, -⟩ := cut_spec l.length (by omega)
      obtain ⟨a, ha⟩ := ih _ (by omega) (l.take (cut l.length)) (by rw [List.length_take]; exact Nat.min_eq_left (by omega)) c1
      obtain ⟨b, hb⟩ := ih (l.length - cut l.length) (by omega) (l.drop (cut l.length)) (by rw [List.length_drop]) (by omega)
      exact ⟨j a b, by rw [root_two j l (by omega), ha, hb]⟩
    · obtain ⟨x, hx⟩ : ∃ x, l = [x] := List.length_eq_one_iff.1 (by omega)
      exact ⟨x, by rw [hx, root_one]⟩

/-- Twice as many, two by two. -/
theorem cut_half (n : Nat) (h : 2 ≤ n) : cut (2 * n) = 2 * cut n := by
  obtain ⟨-, c1, c2, a, ha⟩ := cut_spec n h
  rw [ha] at c1 c2
  have := cut_eq (2 * n) (a + 1) (by rw [Nat.pow_succ]; omega) (by rw [Nat.pow_succ]; omega)
  rw [this, ha, Nat.pow_succ, Nat.mul_comm]

theorem pairs_take : ∀ (l : List α) (k : Nat), l.length % 2 = 0 → 2 * k ≤ l.length → pairs j (l.take (2 * k)) = (pairs j l).take k ∧ pairs j (l.drop (2 * k)) = (pairs j l).drop k := by
  intro l k h hk
  have hl : (l.take (2 * k)).length = 2 * k := by rw [List.length_take]; omega
  have e := pairs_append j (l.take (2 * k)) (l.drop (2 * k)) (by rw [hl]; omega)
  rw [List.take_append_drop] at e
  have hp : (pairs j (l.take (2 * k))).length = k := by rw [pairs_length, hl]; omega
  rw [e]
  exact ⟨(List.take_left' hp).symm, (List.drop_left' hp).symm⟩

theorem root_even : ∀ (n : Nat) (l : List α), l.length = 2 * n → 1 ≤ n → root j l = root j (pairs j l) := by
  intro n
  induction n using Nat.strongRecOn with
  | ind n ih =>
    intro l hl hn
    have hp := pairs_length j l
    by_cases h : 2 ≤ n
    · obtain ⟨c1, c2, c3, -⟩ := cut_spec n h
      have hc := cut_half n h
      have hpn : (pairs j l).length = n := by omega
      obtain ⟨t1, t2⟩ := pairs_take j l (cut n) (by omega) (by omega)
      have i1 := ih (cut n) c2 (l.take (2 * cut n)) (by rw [List.length_take]; omega) c1
      have i2 := ih (n - cut n) (by omega) (l.drop (2 * cut n)) (by rw [List.length_drop]; omega) (by omega)
      rw [root_two j l (by omega), root_two j (pairs j l) (by omega), hl, hpn, hc, i1, i2, t1, t2]
    · obtain rfl : n = 1 := by omega
      match l, hl with
      | [a, b], _ =>
        have hc : cut 2 = 1 := by decide
        rw [root_two j [a, b] (by simp)]
        simp only [List.length_cons, List.length_nil, hc, List.take_succ_cons, List.take_zero, List.drop_succ_cons, List.drop_zero, root_one, pairs]

/-- The root over whole trees, the last one first. -/
def over : List α → Option α
  | [] => none
  | [x] => some x
  | a :: l => (over l).map (j a)

theorem over_cons (a : α) (l : List α) (h : l ≠ []) : over j (a :: l) = (over j l).map (j a) := by
  cases l with
  | nil => exact absurd rfl h
  | cons b l => rfl

/-- The greatest whole tree, and the others. -/
theorem wholes_top : ∀ (n : Nat) (l : List α), l.length = n → ∀ a, 2 ^ a ≤ n → n < 2 * 2 ^ a → ∃ r, root j (l.take (2 ^ a)) = some r ∧ wholes j l = r :: wholes j (l.drop (2 ^ a)) := by
  intro n
  induction n using Nat.strongRecOn with
  | ind n ih =>
    intro l hl a h1 h2
    cases a with
    | zero =>
      obtain rfl : n = 1 := by simp at h1 h2; omega
      obtain ⟨x, rfl⟩ : ∃ x, l = [x] := List.length_eq_one_iff.1 hl
      refine ⟨x, root_one j x, ?_⟩
      have := wholes_odd j [] x rfl
      rw [List.nil_append] at this
      rw [this]
      rfl
    | succ a =>
      have h0 : 1 ≤ 2 ^ a := Nat.pow_pos (by decide)
      rw [Nat.pow_succ] at h1 h2
      have e2 : 2 ^ (a + 1) = 2 * 2 ^ a := by rw [Nat.pow_succ, Nat.mul_comm]
      have key : ∀ m : List α, m.length % 2 = 0 → m.length / 2 < n → 2 ^ a ≤ m.length / 2 → m.length / 2 < 2 * 2 ^ a → ∃ r, root j (m.take (2 ^ (a + 1))) = some r ∧ wholes j m = r :: wholes j (m.drop (2 ^ (a + 1))) := by
        intro m hm q1 q2 q3
        have hp := pairs_length j m
        obtain ⟨r, r1, r2⟩ := ih (m.length / 2) q1 (pairs j m) hp a q2 q3
        obtain ⟨t1, t2⟩ := pairs_take j m (2 ^ a) hm (by omega)
        refine ⟨r, ?_, ?_⟩
        · rw [e2, root_even j (2 ^ a) (m.take (2 * 2 ^ a)) (by rw [List.length_take]; omega) h0, t1, r1]
        · rw [wholes_even j m hm, r2, e2, wholes_even j (m.drop (2 * 2 ^ a)) (by rw [List.length_drop]; omega), t2]
      by_cases he : n % 2 = 0
      · exact key l (by omega) (by omega) (by omega) (by omega)
      · obtain ⟨m, y, hm⟩ : ∃ m y, l = m ++ [y] := by
          have hne : l ≠ [] := fun e => by rw [e] at hl; simp at hl; omega
          exact ⟨l.dropLast, l.getLast hne, (List.dropLast_concat_getLast hne).symm⟩
        subst hm
        have hml : (m ++ [y]).length = m.length + 1 := by simp
        obtain ⟨r, r1, r2⟩ := key m (by omega) (by omega) (by omega) (by omega)
        have hle : 2 ^ (a + 1) ≤ m.length := by omega
        refine ⟨r, ?_, ?_⟩
        · rw [List.take_append_of_le_length hle, r1]
        · rw [wholes_odd j m y (by omega), r2, List.drop_append_of_le_length hle, wholes_odd j (m.drop (2 ^ (a + 1))) y (by rw [List.length_drop]; omega)]
          rfl

theorem top_pow (n : Nat) (h : 1 ≤ n) : ∃ a, 2 ^ a ≤ n ∧ n < 2 * 2 ^ a := by
  by_cases h1 : n = 1
  · exact ⟨0, by omega, by omega⟩
  · obtain ⟨c0, c1, c2, a, ha⟩ := cut_spec n (by omega)
    rw [ha] at c1 c2
    by_cases h2 : n = 2 * 2 ^ a
    · exact ⟨a + 1, by rw [Nat.pow_succ]; omega, by rw [Nat.pow_succ]; omega⟩
    · exact ⟨a, by omega, by omega⟩

theorem wholes_nil : wholes j ([] : List α) = [] := rfl

theorem wholes_ne (l : List α) (h : 1 ≤ l.length) : wholes j l ≠ [] := by
  obtain ⟨a, h1, h2⟩ := top_pow l.length h
  obtain ⟨r, -, e⟩ := wholes_top j l.length l rfl a h1 h2
  rw [e]
  exact List.cons_ne_nil _ _

/-- The root over the whole trees is the log's. -/
theorem over_wholes : ∀ (n : Nat) (l : List α), l.length = n → 1 ≤ n → over j (wholes j l) = root j l := by
  intro n
  induction n using Nat.strongRecOn with
  | ind n ih =>
    intro l hl hn
    obtain ⟨a, h1, h2⟩ := top_pow n hn
    have h0 : 1 ≤ 2 ^ a := Nat.pow_pos (by decide)
    obtain ⟨r, r1, r2⟩ := wholes_top j n l hl a h1 h2
    by_cases he : n = 2 ^ a
    · rw [r2, List.drop_of_length_le (by omega), wholes_nil]
      rw [List.take_of_length_le (by omega)] at r1
      rw [r1]
      rfl
    · have hd : (l.drop (2 ^ a)).length = n - 2 ^ a := by rw [List.length_drop, hl]
      have i := ih (n - 2 ^ a) (by omega) (l.drop (2 ^ a)) hd (by omega)
      obtain ⟨s, hs⟩ := root_some j (n - 2 ^ a) (l.drop (2 ^ a)) hd (by omega)
      have hc : cut l.length = 2 ^ a := by rw [hl]; exact cut_eq n a (by omega) (by omega)
      rw [r2, over_cons j r _ (wholes_ne j _ (by omega)), i, hs, root_two j l (by omega), hc, r1, hs]
      rfl

end Go.Proofs.Ytenfhmpjhbpkpaa.Mth
namespace Go.Proofs.Ytenfhmpjhbpkpaa.Mth

/-- A turn on the way down: did it go left, and the span that it left behind. -/
structure Turn where
  left : Bool
  lo : Nat
  hi : Nat

/-- The way from the span lo .. hi down toward the m-th leaf, the deepest turn first; the span where it ends. -/
def way (stop : Nat → Nat → Bool) : Nat → Nat → Nat → Nat → List Turn × (Nat × Nat)
  | 0, _, lo, hi => ([], (lo, hi))
  | f + 1, m, lo, hi => if stop lo hi then ([], (lo, hi)) else if m ≤ lo + cut (hi - lo) then
      ((way stop f m lo (lo + cut (hi - lo))).1 ++ [⟨true, lo + cut (hi - lo), hi⟩], (way stop f m lo (lo + cut (hi - lo))).2)
    else ((way stop f m (lo + cut (hi - lo)) hi).1 ++ [⟨false, lo, lo + cut (hi - lo)⟩], (way stop f m (lo + cut (hi - lo)) hi).2)

variable {α β : Type} (rt : List α → β)

/-- The leaves of a span. -/
def seg (l : List α) (lo hi : Nat) : List α := (l.take hi).drop lo

theorem seg_length (l : List α) (lo hi : Nat) (h : hi ≤ l.length) : (seg l lo hi).length = hi - lo := by
  unfold seg
  rw [List.length_drop, List.length_take]
  omega

theorem seg_take (l : List α) (lo hi k : Nat) (h : lo + k ≤ hi) : (seg l lo hi).take k = seg l lo (lo + k) := by
  unfold seg
  rw [List.take_drop, List.take_take, Nat.min_eq_left (by omega)]

theorem seg_drop (l : List α) (lo hi k : Nat) : (seg l lo hi).drop k = seg l (lo + k) hi := by
  unfold seg
  rw [List.drop_drop]

theorem seg_all (l : List α) : seg l 0 l.length = l := by simp [seg]

/-- The path of leaf i: the deepest one first. -/
def path : Nat → Nat → List α → List β
  | 0, _, _ => []
  | f + 1, i, l => if l.length ≤ 1 then [] else if i < cut l.length then path f i (l.take (cut l.length)) ++ [rt (l.drop (cut l.length))]
    else path f (i - cut l.length) (l.drop (cut l.length)) ++ [rt (l.take (cut l.length))]

theorem path_fuel : ∀ (f g i : Nat) (l : List α), l.length ≤ f → l.length ≤ g → path rt f i l = path rt g i l
  | 0, g, i, l, hf, _ => by
    cases g with
    | zero => rfl
    | succ g =>
      have h0 : l.length ≤ 1 := by omega
      simp only [path, if_pos h0]
  | f + 1, 0, i, l, _, hg => by
    have h0 : l.length ≤ 1 := by omega
    simp only [path, if_pos h0]
  | f + 1, g + 1, i, l, hf, hg => by
    by_cases h0 : l.length ≤ 1
    · simp only [path, if_pos h0]
    · obtain ⟨c1, c2, -, -⟩ := cut_spec l.length (by omega)
      have i1 := path_fuel f g i (l.take (cut l.length)) (by rw [List.length_take]; omega) (by rw [List.length_take]; omega)
      have i2 := path_fuel f g (i - cut l.length) (l.drop (cut l.length)) (by rw [List.length_drop]; omega) (by rw [List.length_drop]; omega)
      simp only [path, if_neg h0, i1, i2]

def pathOf (i : Nat) (l : List α) : List β := path rt l.length i l

theorem pathOf_one (i : Nat) (l : List α) (h : l.length ≤ 1) : pathOf rt i l = [] := by
  unfold pathOf
  rw [path_fuel rt l.length (l.length + 1) i l (Nat.le_refl _) (by omega)]
  simp only [path, if_pos h]

theorem pathOf_two (i : Nat) (l : List α) (h : 2 ≤ l.length) : pathOf rt i l = if i < cut l.length then pathOf rt i (l.take (cut l.length)) ++ [rt (l.drop (cut l.length))]
    else pathOf rt (i - cut l.length) (l.drop (cut l.length)) ++ [rt (l.take (cut l.length))] := by
  obtain ⟨c1, c2, -, -⟩ := cut_spec l.length h
  have h0 : ¬ l.length ≤ 1 := by omega
  unfold pathOf
  rw [path_fuel rt l.length (l.length + 1) i l (Nat.le_refl _) (by omega)]
  simp only [path, if_neg h0]
  rw [path_fuel rt l.length (l.take (cut l.length)).length i _ (by rw [List.length_take]; omega) (Nat.le_refl _), path_fuel rt l.length (l.drop (cut l.length)).length (i - cut l.length) _ (by rw [List.length_drop]; omega) (Nat.le_refl _)]

/-- The roots of what the turns leave behind are the path. -/
theorem way_path : ∀ (f i lo hi : Nat) (l : List α), hi ≤ l.length → lo < hi → hi - lo ≤ f + 1 → lo + i < hi →
    (way (fun a b => decide (b - a = 1)) f (lo + i + 1) lo hi).1.map (fun t => rt (seg l t.lo t.hi)) = pathOf rt i (seg l lo hi)
  | 0, i, lo, hi, l, hl, h1, h2, h3 => by
    have hs := seg_length l lo hi hl
    rw [pathOf_one rt i _ (by omega)]
    rfl
  | f + 1, i, lo, hi, l, hl, h1, h2, h3 => by
    have hs := seg_length l lo hi hl
    by_cases h : hi - lo = 1
    · rw [pathOf_one rt i _ (by omega)]
      simp [way, h]
    · obtain ⟨c1, c2, -, -⟩ := cut_spec (hi - lo) (by omega)
      have e1 := seg_take l lo hi (cut (hi - lo)) (by omega)
      have e2 := seg_drop l lo hi (cut (hi - lo))
      have hd : decide (hi - lo = 1) = false := decide_eq_false h
      rw [pathOf_two rt i _ (by omega), hs, e1, e2]
      by_cases hi' : i < cut (hi - lo)
      · have hm : lo + i + 1 ≤ lo + cut (hi - lo) := by omega
        have ih := way_path f i lo (lo + cut (hi - lo)) l (by omega) (by omega) (by omega) (by omega)
        simp only [way, hd, Bool.false_eq_true, if_false, if_pos hm, if_pos hi', List.map_append, List.map_cons, List.map_nil, ih]
      · have hm : ¬ lo + i + 1 ≤ lo + cut (hi - lo) := by omega
        have ih := way_path f (i - cut (hi - lo)) (lo + cut (hi - lo)) hi l hl (by omega) (by omega) (by omega)
        have e3 : lo + cut (hi - lo) + (i - cut (hi - lo)) + 1 = lo + i + 1 := by omega
        rw [e3] at ih
        simp only [way, hd, Bool.false_eq_true, if_false, if_neg hm, if_neg hi', List.map_append, List.map_cons, List.map_nil, ih]

/-- The proof that the first m leaves are a beginning: the deepest one first. -/
def sub : Nat → Nat → List α → Bool → List β
  | 0, _, l, w => if w then [] else [rt l]
  | f + 1, m, l, w => if m = l.length then (if w then [] else [rt l]) else if m ≤ cut l.length then sub f m (l.take (cut l.length)) w ++ [rt (l.drop (cut l.length))]
    else sub f (m - cut l.length) (l.drop (cut l.length)) false ++ [rt (l.take (cut l.length))]

theorem sub_fuel : ∀ (f g m : Nat) (l : List α) (w : Bool), 1 ≤ m → m ≤ l.length → l.length ≤ f + 1 → l.length ≤ g + 1 → sub rt f m l w = sub rt g m l w
  | 0, g, m, l, w, h1, h2, hf, _ => by
    have h0 : m = l.length := by omega
    cases g with
    | zero => rfl
    | succ g => simp only [sub, if_pos h0]
  | f + 1, 0, m, l, w, h1, h2, _, hg => by
    have h0 : m = l.length := by omega
    simp only [sub, if_pos h0]
  | f + 1, g + 1, m, l, w, h1, h2, hf, hg => by
    by_cases h0 : m = l.length
    · simp only [sub, if_pos h0]
    · obtain ⟨c1, c2, -, -⟩ := cut_spec l.length (by omega)
      by_cases hm : m ≤ cut l.length
      · have i1 := sub_fuel f g m (l.take (cut l.length)) w h1 (by rw [List.length_take]; omega) (by rw [List.length_take]; omega) (by rw [List.length_take]; omega)
        simp only [sub, if_neg h0, if_pos hm, i1]
      · have i2 := sub_fuel f g (m - cut l.length) (l.drop (cut l.length)) false (by omega) (by rw [List.length_drop]; omega) (by rw [List.length_drop]; omega) (by rw [List.length_drop]; omega)
        simp only [sub, if_neg h0, if_neg hm, i2]

def subOf (m : Nat) (l : List α) (w : Bool) : List β := sub rt l.length m l w

theorem subOf_all (l : List α) (w : Bool) : subOf rt l.length l w = if w then [] else [rt l] := by
  unfold subOf
  cases h : l.length with
  | zero => rfl
  | succ n => simp only [sub, h, if_true]

theorem subOf_two (m : Nat) (l : List α) (w : Bool) (h1 : 1 ≤ m) (h2 : m < l.length) : subOf rt m l w = if m ≤ cut l.length then subOf rt m (l.take (cut l.length)) w ++ [rt (l.drop (cut l.length))]
    else subOf rt (m - cut l.length) (l.drop (cut l.length)) false ++ [rt (l.take (cut l.length))] := by
  obtain ⟨c1, c2, -, -⟩ := cut_spec l.length (by omega)
  have h0 : ¬ m = l.length := by omega
  unfold subOf
  rw [sub_fuel rt l.length (l.length + 1) m l w h1 (by omega) (by omega) (by omega)]
  simp only [sub, if_neg h0]
  by_cases hm : m ≤ cut l.length
  · rw [if_pos hm, if_pos hm, sub_fuel rt l.length (l.take (cut l.length)).length m _ w h1 (by rw [List.length_take]; omega) (by rw [List.length_take]; omega) (by omega)]
  · rw [if_neg hm, if_neg hm, sub_fuel rt l.length (l.drop (cut l.length)).length (m - cut l.length) _ false (by omega) (by rw [List.length_drop]; omega) (by rw [List.length_drop]; omega) (by omega)]

/-- The roots of what the turns leave behind, behind that of the span where the way ends, unless it begins with the first leaf: the same proof. -/
theorem way_sub : ∀ (f m lo hi : Nat) (l : List α), hi ≤ l.length → lo < m → m ≤ hi → hi - lo ≤ f + 1 →
    (if 0 < (way (fun _ b => decide (b = m)) f m lo hi).2.1 then [rt (seg l (way (fun _ b => decide (b = m)) f m lo hi).2.1 (way (fun _ b => decide (b = m)) f m lo hi).2.2)] else []) ++
      (way (fun _ b => decide (b = m)) f m lo hi).1.map (fun t => rt (seg l t.lo t.hi)) = subOf rt (m - lo) (seg l lo hi) (decide (lo = 0))
  | 0, m, lo, hi, l, hl, h1, h2, h3 => by
    have hs := seg_length l lo hi hl
    obtain rfl : m = hi := by omega
    have e := subOf_all rt (seg l lo m) (decide (lo = 0))
    rw [hs] at e
    rw [e]
    simp only [way, List.map_nil, List.append_nil]
    by_cases h : lo = 0
    · simp [h]
    · have : 0 < lo := by omega
      simp [h, this]
  | f + 1, m, lo, hi, l, hl, h1, h2, h3 => by
    have hs := seg_length l lo hi hl
    by_cases h : hi = m
    · subst h
      have e := subOf_all rt (seg l lo hi) (decide (lo = 0))
      rw [hs] at e
      rw [e]
      simp only [way, decide_true, if_true, List.map_nil, List.append_nil]
      by_cases h : lo = 0
      · simp [h]
      · have : 0 < lo := by omega
        simp [h, this]
    · obtain ⟨c1, c2, -, -⟩ := cut_spec (hi - lo) (by omega)
      have e1 := seg_take l lo hi (cut (hi - lo)) (by omega)
      have e2 := seg_drop l lo hi (cut (hi - lo))
      have hd : decide (hi = m) = false := decide_eq_false h
      rw [subOf_two rt (m - lo) _ _ (by omega) (by omega), hs, e1, e2]
      by_cases hm : m ≤ lo + cut (hi - lo)
      · have hm' : m - lo ≤ cut (hi - lo) := by omega
        have ih := way_sub f m lo (lo + cut (hi - lo)) l (by omega) h1 hm (by omega)
        simp only [way, hd, Bool.false_eq_true, if_false, if_pos hm, if_pos hm', List.map_append, List.map_cons, List.map_nil, ← ih, List.append_assoc]
      · have hm' : ¬ m - lo ≤ cut (hi - lo) := by omega
        have ih := way_sub f m (lo + cut (hi - lo)) hi l hl (by omega) h2 (by omega)
        have e3 : m - (lo + cut (hi - lo)) = m - lo - cut (hi - lo) := by omega
        have e4 : decide (lo + cut (hi - lo) = 0) = false := decide_eq_false (by omega)
        rw [e3, e4] at ih
        simp only [way, hd, Bool.false_eq_true, if_false, if_neg hm, if_neg hm', List.map_append, List.map_cons, List.map_nil, ← ih, List.append_assoc]

/-! Checks: the root that a path makes. -/

variable (jn : α → α → α)

def oneUp (t : Turn) (h x : α) : α := if t.left then jn h x else jn x h

/-- From a leaf's hash up the turns, each with its hash of the path. -/
def upAll : α → List Turn → List α → α
  | h, t :: ts, x :: xs => upAll (oneUp jn t h x) ts xs
  | h, _, _ => h

theorem upAll_snoc : ∀ (ts : List Turn) (xs : List α) (h : α) (t : Turn) (x : α), ts.length = xs.length → upAll jn h (ts ++ [t]) (xs ++ [x]) = oneUp jn t (upAll jn h ts xs) x
  | [], [], h, t, x, _ => rfl
  | [], _ :: _, h, t, x, e => by simp at e
  | _ :: _, [], h, t, x, e => by simp at e
  | s :: ts, y :: xs, h, t, x, e => by
    have ih := upAll_snoc ts xs (oneUp jn s h y) t x (by simpa using e)
    simp only [List.cons_append, upAll, ih]

/-- The reference's way: from the root's end of the path. -/
def climb : Nat → α → Nat → Nat → List α → α × Bool
  | 0, h, _, _, p => (h, p.isEmpty)
  | f + 1, h, i, n, p => if n ≤ 1 then (h, p.isEmpty) else match p.getLast? with
    | none => (h, false)
    | some top => if i < cut n then (jn (climb f h i (cut n) p.dropLast).1 top, (climb f h i (cut n) p.dropLast).2)
      else (jn top (climb f h (i - cut n) (n - cut n) p.dropLast).1, (climb f h (i - cut n) (n - cut n) p.dropLast).2)

theorem climb_way : ∀ (f : Nat) (h : α) (i lo hi : Nat) (p : List α), lo < hi → hi - lo ≤ f + 1 → lo + i < hi →
    ((climb jn f h i (hi - lo) p).2 = true ↔ p.length = (way (fun a b => decide (b - a = 1)) f (lo + i + 1) lo hi).1.length) ∧
      (p.length = (way (fun a b => decide (b - a = 1)) f (lo + i + 1) lo hi).1.length → (climb jn f h i (hi - lo) p).1 = upAll jn h (way (fun a b => decide (b - a = 1)) f (lo + i + 1) lo hi).1 p)
  | 0, h, i, lo, hi, p, h1, h2, h3 => by
    refine ⟨?_, fun e => ?_⟩
    · simp [climb, way, List.isEmpty_iff]
    · simp [climb, way, upAll]
  | f + 1, h, i, lo, hi, p, h1, h2, h3 => by
    by_cases hn : hi - lo = 1
    · have hle : hi - lo ≤ 1 := by omega
      refine ⟨?_, fun e => ?_⟩
      · simp [climb, way, hn, List.isEmpty_iff]
      · simp [climb, way, hn, upAll]
    · have hle : ¬ hi - lo ≤ 1 := by omega
      obtain ⟨c1, c2, -, -⟩ := cut_spec (hi - lo) (by omega)
      have hd : decide (hi - lo = 1) = false := decide_eq_false hn
      rcases List.eq_nil_or_concat p with rfl | ⟨q, top, rfl⟩
      · by_cases hm : lo + i + 1 ≤ lo + cut (hi - lo)
        · simp [climb, way, hle, hd, hm]
        · simp [climb, way, hle, hd, hm]
      · rw [List.concat_eq_append]
        by_cases hi' : i < cut (hi - lo)
        · have hm : lo + i + 1 ≤ lo + cut (hi - lo) := by omega
          have e : lo + cut (hi - lo) - lo = cut (hi - lo) := by omega
          obtain ⟨i1, i2⟩ := climb_way f h i lo (lo + cut (hi - lo)) q (by omega) (by omega) (by omega)
          rw [e] at i1 i2
          simp only [climb, way, if_neg hle, hd, Bool.false_eq_true, if_false, if_pos hm, if_pos hi', List.getLast?_concat, List.dropLast_concat, List.length_append, List.length_singleton, Nat.add_right_cancel_iff]
          refine ⟨i1, fun e => ?_⟩
          rw [upAll_snoc jn _ _ _ _ _ e.symm, i2 e]
          rfl
        · have hm : ¬ lo + i + 1 ≤ lo + cut (hi - lo) := by omega
          have e : hi - (lo + cut (hi - lo)) = hi - lo - cut (hi - lo) := by omega
          have e3 : lo + cut (hi - lo) + (i - cut (hi - lo)) + 1 = lo + i + 1 := by omega
          obtain ⟨i1, i2⟩ := climb_way f h (i - cut (hi - lo)) (lo + cut (hi - lo)) hi q (by omega) (by omega) (by omega)
          rw [e, e3] at i1 i2
          simp only [climb, way, if_neg hle, hd, Bool.false_eq_true, if_false, if_neg hm, if_neg hi', List.getLast?_concat, List.dropLast_concat, List.length_append, List.length_singleton, Nat.add_right_cancel_iff]
          refine ⟨i1, fun e => ?_⟩
          rw [upAll_snoc jn _ _ _ _ _ e.symm, i2 e]
          rfl

/-! Checks of beginnings: the two roots that a proof makes. -/

/-- The root of the first m leaves: only what lies left of the way counts. -/
def befAll : α → List Turn → List α → α
  | h, t :: ts, x :: xs => befAll (if t.left then h else jn x h) ts xs
  | h, _, _ => h

theorem befAll_snoc : ∀ (ts : List Turn) (xs : List α) (h : α) (t : Turn) (x : α), ts.length = xs.length → befAll jn h (ts ++ [t]) (xs ++ [x]) = if t.left then befAll jn h ts xs else jn x (befAll jn h ts xs)
  | [], [], h, t, x, _ => rfl
  | [], _ :: _, h, t, x, e => by simp at e
  | _ :: _, [], h, t, x, e => by simp at e
  | s :: ts, y :: xs, h, t, x, e => by
    have ih := befAll_snoc ts xs (if s.left then h else jn y h) t x (by simpa using e)
    simp only [List.cons_append, befAll, ih]

def riseEnd (h : α) (w : Bool) (p : List α) : α × α × Bool := if w then (h, h, p.isEmpty) else if p.length = 1 then (p.headD h, p.headD h, true) else (h, h, false)

/-- The reference's way. -/
def rise : Nat → α → Nat → Nat → Bool → List α → α × α × Bool
  | 0, h, _, _, w, p => riseEnd h w p
  | f + 1, h, m, n, w, p => if m = n then riseEnd h w p else match p.getLast? with
    | none => (h, h, false)
    | some top => if m ≤ cut n then ((rise f h m (cut n) w p.dropLast).1, jn (rise f h m (cut n) w p.dropLast).2.1 top, (rise f h m (cut n) w p.dropLast).2.2)
      else (jn top (rise f h (m - cut n) (n - cut n) false p.dropLast).1, jn top (rise f h (m - cut n) (n - cut n) false p.dropLast).2.1, (rise f h (m - cut n) (n - cut n) false p.dropLast).2.2)

/-- As many nodes of the proof stand ahead of those of the turns. -/
def ahead (e : Nat × Nat) : Nat := if 0 < e.1 then 1 else 0

theorem riseEnd_way (h : α) (lo hi : Nat) (p : List α) : ((riseEnd h (decide (lo = 0)) p).2.2 = true ↔ p.length = ahead (lo, hi) + 0) ∧
    (p.length = ahead (lo, hi) + 0 → (riseEnd h (decide (lo = 0)) p).1 = (p.take (ahead (lo, hi))).headD h ∧ (riseEnd h (decide (lo = 0)) p).2.1 = (p.take (ahead (lo, hi))).headD h) := by
  unfold riseEnd ahead
  by_cases h0 : lo = 0
  · subst h0
    simp [List.isEmpty_iff]
  · have h1 : 0 < lo := by omega
    by_cases hp : p.length = 1
    · simp [h0, h1, hp, List.take_of_length_le (Nat.le_of_eq hp)]
    · simp [h0, h1, hp]

theorem rise_way : ∀ (f : Nat) (h : α) (m lo hi : Nat) (p : List α), lo < m → m ≤ hi → hi - lo ≤ f + 1 →
    ((rise jn f h (m - lo) (hi - lo) (decide (lo = 0)) p).2.2 = true ↔ p.length = ahead (way (fun _ b => decide (b = m)) f m lo hi).2 + (way (fun _ b => decide (b = m)) f m lo hi).1.length) ∧
      (p.length = ahead (way (fun _ b => decide (b = m)) f m lo hi).2 + (way (fun _ b => decide (b = m)) f m lo hi).1.length →
        (rise jn f h (m - lo) (hi - lo) (decide (lo = 0)) p).1 = befAll jn ((p.take (ahead (way (fun _ b => decide (b = m)) f m lo hi).2)).headD h) (way (fun _ b => decide (b = m)) f m lo hi).1 (p.drop (ahead (way (fun _ b => decide (b = m)) f m lo hi).2)) ∧
        (rise jn f h (m - lo) (hi - lo) (decide (lo = 0)) p).2.1 = upAll jn ((p.take (ahead (way (fun _ b => decide (b = m)) f m lo hi).2)).headD h) (way (fun _ b => decide (b = m)) f m lo hi).1 (p.drop (ahead (way (fun _ b => decide (b = m)) f m lo hi).2)))
  | 0, h, m, lo, hi, p, h1, h2, h3 => by
    obtain ⟨i1, i2⟩ := riseEnd_way h lo hi p
    simp only [rise, way, List.length_nil]
    refine ⟨i1, fun e => ?_⟩
    obtain ⟨j1, j2⟩ := i2 e
    exact ⟨j1, j2⟩
  | f + 1, h, m, lo, hi, p, h1, h2, h3 => by
    by_cases hn : hi = m
    · subst hn
      obtain ⟨i1, i2⟩ := riseEnd_way h lo hi p
      simp only [rise, way, decide_true, if_true, List.length_nil]
      refine ⟨i1, fun e => ?_⟩
      obtain ⟨j1, j2⟩ := i2 e
      exact ⟨j1, j2⟩
    · have hle : ¬ m - lo = hi - lo := by omega
      obtain ⟨c1, c2, -, -⟩ := cut_spec (hi - lo) (by omega)
      have hd : decide (hi = m) = false := decide_eq_false hn
      rcases List.eq_nil_or_concat p with rfl | ⟨q, top, rfl⟩
      · by_cases hm : m ≤ lo + cut (hi - lo)
        · simp [rise, way, hle, hd, hm]
        · simp [rise, way, hle, hd, hm]
      · rw [List.concat_eq_append]
        by_cases hm : m ≤ lo + cut (hi - lo)
        · have hm' : m - lo ≤ cut (hi - lo) := by omega
          have e : lo + cut (hi - lo) - lo = cut (hi - lo) := by omega
          obtain ⟨i1, i2⟩ := rise_way f h m lo (lo + cut (hi - lo)) q h1 hm (by omega)
          rw [e] at i1 i2
          simp only [rise, way, if_neg hle, hd, Bool.false_eq_true, if_false, if_pos hm, if_pos hm', List.getLast?_concat, List.dropLast_concat, List.length_append, List.length_singleton]
          generalize way (fun _ b => decide (b = m)) f m lo (lo + cut (hi - lo)) = W at *
          refine ⟨by rw [i1]; omega, fun e' => ?_⟩
          have e2 : q.length = ahead W.2 + W.1.length := by omega
          obtain ⟨j1, j2⟩ := i2 e2
          have hl : W.1.length = (q.drop (ahead W.2)).length := by rw [List.length_drop]; omega
          rw [List.take_append_of_le_length (by omega), List.drop_append_of_le_length (by omega), befAll_snoc jn _ _ _ _ _ hl, upAll_snoc jn _ _ _ _ _ hl, j1, j2]
          exact ⟨rfl, rfl⟩
        · have hm' : ¬ m - lo ≤ cut (hi - lo) := by omega
          have e : hi - (lo + cut (hi - lo)) = hi - lo - cut (hi - lo) := by omega
          have e3 : m - (lo + cut (hi - lo)) = m - lo - cut (hi - lo) := by omega
          have e4 : decide (lo + cut (hi - lo) = 0) = false := decide_eq_false (by omega)
          obtain ⟨i1, i2⟩ := rise_way f h m (lo + cut (hi - lo)) hi q (by omega) h2 (by omega)
          rw [e, e3, e4] at i1 i2
          simp only [rise, way, if_neg hle, hd, Bool.false_eq_true, if_false, if_neg hm, if_neg hm', List.getLast?_concat, List.dropLast_concat, List.length_append, List.length_singleton]
          generalize way (fun _ b => decide (b = m)) f m (lo + cut (hi - lo)) hi = W at *
          refine ⟨by rw [i1]; omega, fun e' => ?_⟩
          have e2 : q.length = ahead W.2 + W.1.length := by omega
          obtain ⟨j1, j2⟩ := i2 e2
          have hl : W.1.length = (q.drop (ahead W.2)).length := by rw [List.length_drop]; omega
          rw [List.take_append_of_le_length (by omega), List.drop_append_of_le_length (by omega), befAll_snoc jn _ _ _ _ _ hl, upAll_snoc jn _ _ _ _ _ hl, j1, j2]
          exact ⟨rfl, rfl⟩

end Go.Proofs.Ytenfhmpjhbpkpaa.Mth
