/- Layer 7, plain: a disk's sectors, and what those that are unsynced held. No function of the program is named here. -/
import Derived.Test.YtmgaegaibglnhaaGreatBytes
namespace Go.Proofs.YtmgaegaibglnhaaGreat
open Go.RowKit

abbrev Sec := ByteArray
/-- What the unsynced sectors held, in the order in which they came. -/
abbrev Olds := List (Nat × ByteArray)
def oldGet (m : Olds) (k : Nat) : Option Sec := (m.find? fun p => p.1 == k).map (·.2)
def dirt (m : Olds) (k : Nat) : Bool := (oldGet m k).isSome
structure OldsOk (n : Nat) (m : Olds) : Prop where
  nd : (m.map (·.1)).Nodup
  lt : ∀ p ∈ m, p.1 < n
  len : ∀ p ∈ m, p.2.size = 64
theorem OldsOk.nil (n : Nat) : OldsOk n [] := ⟨List.nodup_nil, (fun p h => by cases h), (fun p h => by cases h)⟩

section
variable {n k j : Nat} {m : Olds} {s : Sec}
theorem oldGet_none : oldGet m k = none ↔ ∀ p ∈ m, p.1 ≠ k := by
  unfold oldGet
  rw [Option.map_eq_none_iff, List.find?_eq_none]
  simp
theorem oldGet_mem (h : oldGet m k = some s) : (k, s) ∈ m := by
  unfold oldGet at h
  obtain ⟨p, hp, rfl⟩ := Option.map_eq_some_iff.1 h
  have h1 := List.mem_of_find?_eq_some hp
  have h2 := List.find?_some hp
  obtain rfl : p.1 = k := by simpa using h2
  exact h1
theorem oldGet_snoc (s : Sec) (hn : oldGet m k = none) : oldGet (m ++ [(k, s)]) j = if j = k then some s else oldGet m j := by
  unfold oldGet at hn ⊢
  rw [List.find?_append]
  by_cases h : j = k
  · subst h
    rw [if_pos rfl]
    rw [Option.map_eq_none_iff] at hn
    rw [hn]
    simp
  · rw [if_neg h]
    have h2 : ([(k, s)] : Olds).find? (fun p => p.1 == j) = none := by
      rw [List.find?_eq_none]
      intro p hp
      rw [List.mem_singleton.1 hp]
      simp
      omega
    rw [h2, Option.or_none]
theorem dirt_no : dirt m k = false ↔ oldGet m k = none := by
  unfold dirt
  cases oldGet m k <;> simp
theorem dirt_mem (h : dirt m k = true) : ∃ s, oldGet m k = some s := Option.isSome_iff_exists.1 h
theorem dirt_nil : dirt [] k = false := rfl
theorem dirt_snoc (s : Sec) (hn : oldGet m k = none) : dirt (m ++ [(k, s)]) j = (decide (j = k) || dirt m j) := by
  unfold dirt
  rw [oldGet_snoc s hn]
  by_cases h : j = k <;> simp [h]
theorem dirt_iff : dirt m k = true ↔ k ∈ m.map (·.1) := by
  constructor
  · intro h
    obtain ⟨s, hs⟩ := dirt_mem h
    exact List.mem_map.2 ⟨_, oldGet_mem hs, rfl⟩
  · intro h
    obtain ⟨p, hp, rfl⟩ := List.mem_map.1 h
    cases hq : dirt m p.1 with
    | true => rfl
    | false => exact absurd rfl (oldGet_none.1 (dirt_no.1 hq) p hp)
theorem OldsOk.add (hm : OldsOk n m) (hk : k < n) (hs : s.size = 64) (hn : oldGet m k = none) : OldsOk n (m ++ [(k, s)]) := by
  refine ⟨?_, ?_, ?_⟩
  · rw [List.map_append, List.nodup_append]
    refine ⟨hm.nd, by simp, ?_⟩
    intro a ha b hb e
    obtain ⟨p, hp, rfl⟩ := List.mem_map.1 ha
    have : b = k := by simpa using hb
    exact oldGet_none.1 hn p hp (by omega)
  · intro p hp
    rcases List.mem_append.1 hp with h | h
    · exact hm.lt p h
    · rw [List.mem_singleton.1 h]; exact hk
  · intro p hp
    rcases List.mem_append.1 hp with h | h
    · exact hm.len p h
    · rw [List.mem_singleton.1 h]; exact hs
end

/-- How many sectors ahead of i are unsynced. -/
def rank (m : Olds) (i : Nat) : Nat := ((List.range i).filter (dirt m)).length
theorem rank_succ (m : Olds) (i : Nat) : rank m (i + 1) = rank m i + if dirt m i then 1 else 0 := by
  unfold rank
  rw [List.range_succ, List.filter_append, List.length_append]
  cases h : dirt m i <;> simp [h]
/-- The unsynced sectors, ascending. -/
def oldKeys (n : Nat) (m : Olds) : List Nat := (List.range n).filter (dirt m)
theorem oldKeys_len (n : Nat) (m : Olds) : (oldKeys n m).length = rank m n := rfl
theorem oldKeys_succ (n : Nat) (m : Olds) : oldKeys (n + 1) m = oldKeys n m ++ if dirt m n then [n] else [] := by
  unfold oldKeys
  rw [List.range_succ, List.filter_append]
  cases h : dirt m n <;> simp [h]
theorem oldKeys_at {n : Nat} {m : Olds} {q k : Nat} (h : (oldKeys n m)[q]? = some k) : k < n ∧ dirt m k = true ∧ rank m k = q := by
  induction n with
  | zero => simp [oldKeys] at h
  | succ n ih =>
    rw [oldKeys_succ] at h
    by_cases hq : q < (oldKeys n m).length
    · rw [List.getElem?_append_left hq] at h
      have := ih h
      exact ⟨by omega, this.2⟩
    · rw [List.getElem?_append_right (by omega)] at h
      cases hd : dirt m n with
      | false => simp [hd] at h
      | true =>
        rw [hd] at h
        simp only [if_true] at h
        have hq2 : q - (oldKeys n m).length = 0 := by
          have := (List.getElem?_eq_some_iff.1 h).1
          simp at this
          omega
        rw [hq2] at h
        have e : n = k := by simpa using h
        subst e
        exact ⟨by omega, hd, by rw [← oldKeys_len]; omega⟩
theorem oldKeys_of {n : Nat} {m : Olds} {k : Nat} (hk : k < n) (hd : dirt m k = true) : (oldKeys n m)[rank m k]? = some k := by
  induction n with
  | zero => omega
  | succ n ih =>
    rw [oldKeys_succ]
    by_cases h : k < n
    · have := ih h
      rw [List.getElem?_append_left (List.getElem?_eq_some_iff.1 this).1]
      exact this
    · obtain rfl : k = n := by omega
      rw [List.getElem?_append_right (by rw [oldKeys_len]; exact Nat.le_refl _), oldKeys_len, Nat.sub_self, hd]
      rfl
theorem rank_mono (m : Olds) {i j : Nat} (h : i ≤ j) : rank m i ≤ rank m j := by
  induction j with
  | zero => rw [Nat.le_zero.1 h]; exact Nat.le_refl _
  | succ j ih =>
    rw [rank_succ]
    by_cases h2 : i ≤ j
    · have := ih h2
      omega
    · rw [show i = j + 1 from by omega, rank_succ]
      exact Nat.le_refl _
theorem rank_le (m : Olds) (i : Nat) : rank m i ≤ i := by
  induction i with
  | zero => exact Nat.le_refl _
  | succ i ih =>
    rw [rank_succ]
    split <;> omega
theorem rank_nil (i : Nat) : rank [] i = 0 := by
  induction i with
  | zero => rfl
  | succ i ih => rw [rank_succ, ih, dirt_nil]; rfl
theorem keys_perm {n : Nat} {m : Olds} (hm : OldsOk n m) : (oldKeys n m).Perm (m.map (·.1)) := by
  unfold oldKeys
  rw [List.perm_ext_iff_of_nodup (List.Pairwise.filter _ List.nodup_range) hm.nd]
  intro k
  rw [← dirt_iff]
  rw [List.mem_filter, List.mem_range]
  constructor
  · exact fun h => h.2
  · intro h
    obtain ⟨s, hs⟩ := dirt_mem h
    exact ⟨hm.lt _ (oldGet_mem hs), h⟩
theorem rank_len {n : Nat} {m : Olds} (hm : OldsOk n m) : rank m n = m.length := by
  rw [← oldKeys_len, (keys_perm hm).length_eq, List.length_map]
theorem keys_up (n : Nat) (m : Olds) : (oldKeys n m).Pairwise (· < ·) := List.Pairwise.filter _ List.pairwise_lt_range
/-- Whatever the row in which the keys came: sorted they are these. -/
theorem keys_sorted {n : Nat} {m : Olds} (hm : OldsOk n m) {ss : List Int} (h : ss.Perm (m.map fun p => (p.1 : Int))) : ss.mergeSort (fun x y => decide (x ≤ y)) = (oldKeys n m).map fun (k : Nat) => (k : Int) := by
  have hp : (ss.mergeSort (fun x y => decide (x ≤ y))).Perm ((oldKeys n m).map fun (k : Nat) => (k : Int)) := by
    refine (List.mergeSort_perm _ _).trans (h.trans ?_)
    have := (keys_perm hm).symm.map (fun (k : Nat) => (k : Int))
    rw [List.map_map] at this
    exact this
  have h1 : (ss.mergeSort (fun x y => decide (x ≤ y))).Pairwise (fun x y => x ≤ y) := by
    have := List.pairwise_mergeSort (le := fun (x y : Int) => decide (x ≤ y)) (fun a b c h1 h2 => decide_eq_true (Int.le_trans (of_decide_eq_true h1) (of_decide_eq_true h2))) (fun a b => by rcases Int.le_total a b with h | h <;> simp [h]) ss
    exact this.imp fun h => of_decide_eq_true h
  have h2 : ((oldKeys n m).map fun (k : Nat) => (k : Int)).Pairwise (fun x y => x ≤ y) := List.pairwise_map.2 ((keys_up n m).imp fun h => by omega)
  exact hp.eq_of_pairwise (fun a b _ _ h1 h2 => Int.le_antisymm h1 h2) h1 h2

theorem getD_set {α : Type} (l : List α) (a k : Nat) (x z : α) (ha : a < l.length) : (l.set a x).getD k z = if k = a then x else l.getD k z := by
  rw [List.getD_eq_getElem?_getD, List.getD_eq_getElem?_getD, List.getElem?_set]
  by_cases h : a = k
  · subst h
    rw [if_pos rfl, if_pos ha, if_pos rfl]
    rfl
  · rw [if_neg h, if_neg (fun e => h e.symm)]
def bools (fl : List Bool) : List Value := fl.map Value.bool
theorem bools_at {fl : List Bool} {k : Nat} (hk : k < fl.length) : (bools fl)[k]? = some (.bool (fl.getD k false)) := by
  unfold bools
  rw [List.getElem?_map, List.getD_eq_getElem?_getD, List.getElem?_eq_getElem hk]
  rfl
theorem bools_set (fl : List Bool) (k : Nat) (v : Bool) : (bools fl).set k (.bool v) = bools (fl.set k v) := by
  unfold bools
  rw [List.map_set]
/-- Bit q of a number. -/
def bitAt (keep : Int) (q : Nat) : Int := bits .and .i64 (keep / 2 ^ q) 1
def keepB (keep : Int) (q : Nat) : Bool := decide (q < 62) && !(bitAt keep q == 0)

theorem keepB_cases (keep : Int) (q : Nat) : (keepB keep q = true ∧ (q : Int) < 62 ∧ decide ((62 : Int) ≤ (q : Int)) = false ∧ (bits .and .i64 (keep / 2 ^ q) 1 == 0) = false) ∨ (keepB keep q = false ∧ (q : Int) < 62 ∧ decide ((62 : Int) ≤ (q : Int)) = false ∧ (bits .and .i64 (keep / 2 ^ q) 1 == 0) = true) ∨ (keepB keep q = false ∧ (62 : Int) ≤ (q : Int) ∧ decide ((62 : Int) ≤ (q : Int)) = true) := by
  unfold keepB bitAt
  by_cases h : q < 62
  · have h2 : ¬ (62 : Int) ≤ (q : Int) := by omega
    have h3 : (q : Int) < 62 := by omega
    rw [decide_eq_true h, decide_eq_false h2]
    cases bits .and .i64 (keep / 2 ^ q) 1 == 0 <;> simp [h3]
  · have h2 : (62 : Int) ≤ (q : Int) := by omega
    rw [decide_eq_false h, decide_eq_true h2]
    simp [h2]

/-- A disk: what its sectors hold, what the unsynced ones held. -/
structure Dk where
  xs : List Sec
  old : Olds
structure Dk.fine (n : Nat) (d : Dk) : Prop where
  len : d.xs.length = n
  secs : ∀ s ∈ d.xs, s.size = 64
  ok : OldsOk n d.old
def Dk.new (n : Nat) : Dk := ⟨List.replicate n (zeroS 64), []⟩
def Dk.write (d : Dk) (k : Nat) (s : Sec) : Dk := ⟨d.xs.set k s, if dirt d.old k then d.old else d.old ++ [(k, d.xs.getD k ⟨#[]⟩)]⟩
def Dk.sync (d : Dk) : Dk := ⟨d.xs, []⟩
def Dk.crashAt (keep : Int) (d : Dk) (i : Nat) : Sec := match oldGet d.old i with
  | some o => if keepB keep (rank d.old i) then d.xs.getD i ⟨#[]⟩ else o
  | none => d.xs.getD i ⟨#[]⟩
def Dk.crash (keep : Int) (d : Dk) : Dk := ⟨(List.range d.xs.length).map (d.crashAt keep), []⟩
/-- Behind q rounds. -/
def Dk.mid (keep : Int) (d : Dk) (q : Nat) : List Sec := (List.range d.xs.length).map fun i => if rank d.old i < q then d.crashAt keep i else d.xs.getD i ⟨#[]⟩

section
variable {n : Nat} {d : Dk}
theorem Dk.fine.new (n : Nat) : (Dk.new n).fine n := ⟨List.length_replicate .., (fun s h => by rw [(List.mem_replicate.1 h).2]; exact zeroS_size 64), OldsOk.nil n⟩
theorem Dk.fine.get (h : d.fine n) {k : Nat} (hk : k < n) : (d.xs.getD k ⟨#[]⟩).size = 64 := by
  rw [List.getD_eq_getElem?_getD, List.getElem?_eq_getElem (by rw [h.len]; exact hk)]
  exact h.secs _ (List.getElem_mem _)
theorem Dk.fine.write (h : d.fine n) {k : Nat} (hk : k < n) {s : Sec} (hs : s.size = 64) : (d.write k s).fine n := by
  refine ⟨?_, ?_, ?_⟩
  · unfold Dk.write
    rw [List.length_set]
    exact h.len
  · intro x hx
    rcases List.mem_or_eq_of_mem_set hx with h1 | h1
    · exact h.secs x h1
    · rw [h1]; exact hs
  · unfold Dk.write
    simp only
    cases hd : dirt d.old k with
    | true => exact h.ok
    | false => exact h.ok.add hk (h.get hk) (dirt_no.1 hd)
theorem Dk.fine.sync (h : d.fine n) : d.sync.fine n := ⟨h.len, h.secs, OldsOk.nil n⟩
theorem Dk.crashAt_len (keep : Int) (h : d.fine n) {i : Nat} (hi : i < n) : (d.crashAt keep i).size = 64 := by
  unfold Dk.crashAt
  cases hg : oldGet d.old i with
  | none => exact h.get hi
  | some o =>
    simp only
    split
    · exact h.get hi
    · exact h.ok.len _ (oldGet_mem hg)
theorem Dk.fine.crash (keep : Int) (h : d.fine n) : (d.crash keep).fine n := by
  refine ⟨by unfold Dk.crash; rw [List.length_map, List.length_range]; exact h.len, ?_, OldsOk.nil n⟩
  intro s hs
  unfold Dk.crash at hs
  obtain ⟨i, hi, rfl⟩ := List.mem_map.1 hs
  rw [List.mem_range, h.len] at hi
  exact Dk.crashAt_len keep h hi
theorem Dk.mid_len (keep : Int) (d : Dk) (q : Nat) : (d.mid keep q).length = d.xs.length := by unfold Dk.mid; rw [List.length_map, List.length_range]
theorem Dk.mid_at (keep : Int) (d : Dk) (q i : Nat) (hi : i < d.xs.length) : (d.mid keep q)[i]? = some (if rank d.old i < q then d.crashAt keep i else d.xs.getD i ⟨#[]⟩) := by
  unfold Dk.mid
  rw [List.getElem?_map, List.getElem?_range hi]
  rfl
theorem Dk.mid_secs (keep : Int) (h : d.fine n) (q : Nat) : ∀ s ∈ d.mid keep q, s.size = 64 := by
  intro s hs
  unfold Dk.mid at hs
  obtain ⟨i, hi, rfl⟩ := List.mem_map.1 hs
  rw [List.mem_range, h.len] at hi
  split
  · exact Dk.crashAt_len keep h hi
  · exact h.get hi
theorem Dk.mid_zero (keep : Int) (d : Dk) : d.mid keep 0 = d.xs := by
  refine List.ext_getElem? fun i => ?_
  by_cases hi : i < d.xs.length
  · rw [Dk.mid_at keep d 0 i hi, if_neg (Nat.not_lt_zero _), List.getD_eq_getElem?_getD, List.getElem?_eq_getElem hi]
    rfl
  · rw [List.getElem?_eq_none (by rw [Dk.mid_len]; omega), List.getElem?_eq_none (by omega)]
theorem Dk.crashAt_no (keep : Int) (d : Dk) {i : Nat} (h : dirt d.old i = false) : d.crashAt keep i = d.xs.getD i ⟨#[]⟩ := by
  unfold Dk.crashAt
  rw [dirt_no.1 h]
theorem Dk.mid_end (keep : Int) (d : Dk) : d.mid keep (rank d.old d.xs.length) = (d.crash keep).xs := by
  refine List.map_congr_left fun i hi => ?_
  rw [List.mem_range] at hi
  cases hd : dirt d.old i with
  | false =>
    rw [Dk.crashAt_no keep d hd]
    split <;> rfl
  | true =>
    have h1 := (List.getElem?_eq_some_iff.1 (oldKeys_of hi hd)).1
    rw [oldKeys_len] at h1
    rw [if_pos h1]
theorem Dk.mid_step (keep : Int) (h : d.fine n) {q k : Nat} {o : Sec} (hk : (oldKeys n d.old)[q]? = some k) (ho : oldGet d.old k = some o) : d.mid keep (q + 1) = if keepB keep q then d.mid keep q else (d.mid keep q).set k o := by
  obtain ⟨h1, h2, h3⟩ := oldKeys_at hk
  have hc : d.crashAt keep k = if keepB keep q then d.xs.getD k ⟨#[]⟩ else o := by
    unfold Dk.crashAt
    rw [ho, h3]
  have hl := h.len
  refine List.ext_getElem? fun i => ?_
  by_cases hi : i < d.xs.length
  · rw [Dk.mid_at keep d _ i hi]
    by_cases e : i = k
    · subst e
      rw [if_pos (by omega), hc]
      by_cases hb : keepB keep q = true
      · rw [if_pos hb, if_pos hb, Dk.mid_at keep d _ i hi, if_neg (by omega)]
      · rw [if_neg hb, if_neg hb, List.getElem?_set_self (by rw [Dk.mid_len]; exact hi)]
    · have hs : ((d.mid keep q).set k o)[i]? = (d.mid keep q)[i]? := by rw [List.getElem?_set]; rw [if_neg (fun h => e h.symm)]
      have hs2 : (if keepB keep q then d.mid keep q else (d.mid keep q).set k o)[i]? = (d.mid keep q)[i]? := by split <;> simp [hs]
      rw [hs2, Dk.mid_at keep d _ i hi]
      by_cases hr : rank d.old i < q
      · rw [if_pos (by omega), if_pos hr]
      · rw [if_neg hr]
        by_cases hr2 : rank d.old i = q
        · rw [if_pos (by omega)]
          cases hd : dirt d.old i with
          | false => rw [Dk.crashAt_no keep d hd]
          | true =>
            have := oldKeys_of (n := n) (by omega) hd
            rw [hr2, hk] at this
            exact absurd (Option.some.inj this).symm e
        · rw [if_neg (by omega)]
  · rw [List.getElem?_eq_none (by rw [Dk.mid_len]; omega)]
    split
    · rw [List.getElem?_eq_none (by rw [Dk.mid_len]; omega)]
    · rw [List.getElem?_eq_none (by rw [List.length_set, Dk.mid_len]; omega)]
end

end Go.Proofs.YtmgaegaibglnhaaGreat
