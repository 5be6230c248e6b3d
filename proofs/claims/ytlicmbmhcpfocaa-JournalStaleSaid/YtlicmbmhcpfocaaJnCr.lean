/- Layer 8: what stands behind a crash, where every record takes one sector. -/
import Derived.Test.YtlicmbmhcpfocaaJnAw
namespace Go.Proofs.Ytlicmbmhcpfocaa
open Go.RowKit
attribute [local irreducible] Sha.compress Sha.blocks Sha.sha Sha.pad

theorem none_at {xs : List ByteArray} {st : JSt} (h : ∀ s, xs[st.used]? = some s → s = zeroS 64) : nextS xs st = none := by
  unfold nextS
  refine if_neg (fun hh => ?_)
  obtain ⟨h1, h2⟩ := hh
  generalize guessS xs st.used = R at h1 h2
  have hm : sealMay (st.seq : Int) R = true := by
    cases hq : sealMay (st.seq : Int) R with
    | true => rfl
    | false =>
      unfold sealAns at h1
      rw [hq] at h1
      cases h1
  have he : (sealAns st.prev (st.seq : Int) R).1 = recBytes st.prev st.seq R.kind.toNat R.data := by
    unfold sealAns
    rw [if_pos hm]
    rfl
  rw [he, recBytes_size, Nat.mul_div_cancel _ (by decide : 0 < 64)] at h2
  have hw := wholes_ge (41 + R.data.size)
  have h3 : (readS xs st.used (wholes (41 + R.data.size))).data.toList = (recBytes st.prev st.seq R.kind.toNat R.data).data.toList := by rw [h2]
  obtain ⟨t, ht⟩ := rec_first st.prev st.seq R.kind.toNat R.data
  rw [ht] at h3
  unfold readS at h3
  split at h3
  · rename_i hin
    obtain ⟨s, hs⟩ : ∃ s, xs[st.used]? = some s := ⟨_, List.getElem?_eq_getElem (by omega)⟩
    rw [h s hs] at hs
    obtain ⟨t2, ht2⟩ := joinS_blank (k := wholes (41 + R.data.size)) (by omega) hs
    rw [joinB_list, ht2] at h3
    cases h3
  · cases h3
/-- The records that a journal begins with. -/
theorem stand_take {xs : List ByteArray} {st st' : JSt} {l : List (Rec × ByteArray)} (h : stand xs st l = some st') (m : Nat) : ∃ st2, stand xs st (l.take m) = some st2 ∧ st2.used ≤ st'.used := by
  induction l generalizing st m with
  | nil =>
    rw [List.take_nil]
    exact ⟨st, rfl, by rw [Option.some.inj h]; exact Nat.le_refl _⟩
  | cons p l ih =>
    have hm := stand_mono h
    cases m with
    | zero => exact ⟨st, rfl, hm⟩
    | succ m =>
      unfold stand at h
      by_cases hq : nextS xs st = some p
      · rw [if_pos hq] at h
        obtain ⟨st2, h1, h2⟩ := ih h m
        refine ⟨st2, ?_, h2⟩
        rw [List.take_succ_cons]
        unfold stand
        rw [if_pos hq]
        exact h1
      · rw [if_neg hq] at h
        cases h
/-- Every record takes one sector. -/
def OneEach (l : Stood) : Prop := ∀ x ∈ l, x.1.2.size = 64
theorem over_one {l : Stood} (h : OneEach l) (st : JSt) : (st.over (bare l)).used = st.used + l.length := by
  induction l generalizing st with
  | nil => rfl
  | cons x l ih =>
    show ((st.pass x.1.1 x.1.2).over (bare l)).used = _
    rw [ih (fun y hy => h y (List.mem_cons_of_mem _ hy))]
    show st.used + x.1.2.size / 64 + l.length = _
    rw [h x (List.mem_cons_self ..), List.length_cons]
    omega
/-- What was written since the last Sync lies from sector k on, and was blank. -/
def Since (D : Dk) (k : Nat) : Prop := ∀ i o, oldGet D.old i = some o → k ≤ i ∧ o = zeroS 64
theorem Since.nil {D : Dk} {k : Nat} (h : D.old = []) : Since D k := fun i o ho => by
  rw [h] at ho
  cases ho
theorem Since.write {D : Dk} {k u : Nat} {s : ByteArray} (h : Since D k) (hu : k ≤ u) (hb : D.xs.getD u ⟨#[]⟩ = zeroS 64) : Since (D.write u s) k := fun i o ho => by
  unfold Dk.write at ho
  cases hd : dirt D.old u with
  | true =>
    rw [hd] at ho
    exact h i o ho
  | false =>
    rw [hd] at ho
    have ho : oldGet (D.old ++ [(u, D.xs.getD u ⟨#[]⟩)]) i = some o := ho
    rw [oldGet_snoc _ (dirt_no.1 hd)] at ho
    split at ho
    · rename_i e
      exact ⟨by omega, by rw [← Option.some.inj ho]; exact hb⟩
    · exact h i o ho
theorem Since.weak {D : Dk} {k j : Nat} (h : Since D k) (hj : j ≤ k) : Since D j := fun i o ho => ⟨Nat.le_trans hj (h i o ho).1, (h i o ho).2⟩
/-- A crash: what stood ahead of k stays; behind it each sector stays or is blank. -/
theorem crash_at {D : Dk} {n k : Nat} (keep : Int) (hD : D.fine n) (h : Since D k) (i : Nat) (hi : i < n) :
    (i < k → (D.crash keep).xs[i]? = D.xs[i]?) ∧ ((D.crash keep).xs[i]? = D.xs[i]? ∨ (D.crash keep).xs[i]? = some (zeroS 64)) := by
  have hx : (D.crash keep).xs[i]? = some (D.crashAt keep i) := by
    show ((List.range D.xs.length).map (D.crashAt keep))[i]? = _
    rw [List.getElem?_map, List.getElem?_range (by rw [hD.len]; exact hi)]
    rfl
  have hg : D.xs[i]? = some (D.xs.getD i ⟨#[]⟩) := by rw [List.getD_eq_getElem?_getD, List.getElem?_eq_getElem (by rw [hD.len]; exact hi)]; rfl
  rw [hx, hg]
  unfold Dk.crashAt
  cases ho : oldGet D.old i with
  | none => exact ⟨fun _ => rfl, .inl rfl⟩
  | some o =>
    obtain ⟨h1, h2⟩ := h i o ho
    refine ⟨fun hlt => by omega, ?_⟩
    dsimp only
    split
    · exact .inl rfl
    · exact .inr (by rw [h2])
theorem crash_len {D : Dk} {n : Nat} (keep : Int) (hD : D.fine n) : (D.crash keep).xs.length = n := by
  show ((List.range D.xs.length).map (D.crashAt keep)).length = n
  rw [List.length_map, List.length_range]
  exact hD.len
/-- The first place from k on, up to u, where something holds. -/
theorem first_at (P : Nat → Prop) [DecidablePred P] (k d : Nat) : (∃ m, k ≤ m ∧ m < k + d ∧ P m ∧ ∀ i, k ≤ i → i < m → ¬ P i) ∨ ∀ i, k ≤ i → i < k + d → ¬ P i := by
  induction d with
  | zero => exact .inr fun i h1 h2 => by omega
  | succ d ih =>
    rcases ih with ⟨m, h1, h2, h3, h4⟩ | h
    · exact .inl ⟨m, h1, by omega, h3, h4⟩
    · by_cases hp : P (k + d)
      · exact .inl ⟨k + d, by omega, by omega, hp, fun i h1 h2 => h i h1 (by omega)⟩
      · refine .inr fun i h1 h2 => ?_
        by_cases e : i = k + d
        · rw [e]; exact hp
        · exact h i h1 (by omega)
/-- Behind a crash a beginning stands that has at least what was synced. -/
theorem crash_stands {D : Dk} {n k : Nat} {l : Stood} {st : JSt} (keep : Int) (h : JOk D n l st) (h1 : OneEach l) (hs : Since D k) (hk : k ≤ l.length) :
    ∃ m st2, k ≤ m ∧ m ≤ l.length ∧ stand (D.crash keep).xs JSt.start (bare (l.take m)) = some st2 ∧ nextS (D.crash keep).xs st2 = none := by
  have hu : st.used = l.length := by
    rw [stand_over h.chain, over_one h1]
    exact Nat.zero_add _
  have hun := h.facts.2.2
  have hcl := crash_len keep h.fine
  obtain ⟨m, hm1, hm2, hm3, hm4⟩ : ∃ m, k ≤ m ∧ m ≤ l.length ∧ (∀ s, (D.crash keep).xs[m]? = some s → s = zeroS 64) ∧ ∀ i, k ≤ i → i < m → (D.crash keep).xs[i]? = D.xs[i]? := by
    rcases first_at (fun i => (D.crash keep).xs[i]? = some (zeroS 64)) k (l.length - k) with ⟨m, a, b, c, e⟩ | e
    · refine ⟨m, a, by omega, fun s hs' => ?_, fun i hi1 hi2 => ?_⟩
      · rw [c] at hs'
        exact (Option.some.inj hs').symm
      · rcases (crash_at keep h.fine hs i (by omega)).2 with q | q
        · exact q
        · exact absurd q (e i hi1 hi2)
    · refine ⟨l.length, hk, Nat.le_refl _, fun s hs' => ?_, fun i hi1 hi2 => ?_⟩
      · have hln : l.length < n := by rw [← hcl]; exact (List.getElem?_eq_some_iff.1 hs').1
        rcases (crash_at keep h.fine hs l.length hln).2 with q | q
        · rw [q] at hs'
          exact h.blank l.length s (by omega) hs'
        · rw [q] at hs'
          exact (Option.some.inj hs').symm
      · rcases (crash_at keep h.fine hs i (by omega)).2 with q | q
        · exact q
        · exact absurd q (e i hi1 (by omega))
  have hb : bare (l.take m) = (bare l).take m := by unfold bare; rw [List.map_take]
  obtain ⟨st2, hst, -⟩ := stand_take h.chain m
  rw [← hb] at hst
  have h2 : OneEach (l.take m) := fun x hx => h1 x (List.mem_of_mem_take hx)
  have hu2 : st2.used = m := by
    rw [stand_over hst, over_one h2, List.length_take]
    show 0 + min m l.length = m
    omega
  refine ⟨m, st2, hm1, hm2, stand_agree (u := m) h.fine.secs ⟨hcl.trans h.fine.len.symm, fun i hi => ?_⟩ hst (by omega), none_at (by rw [hu2]; exact hm3)⟩
  by_cases hik : i < k
  · exact (crash_at keep h.fine hs i (by omega)).1 hik
  · exact hm4 i (by omega) hi

end Go.Proofs.Ytlicmbmhcpfocaa
