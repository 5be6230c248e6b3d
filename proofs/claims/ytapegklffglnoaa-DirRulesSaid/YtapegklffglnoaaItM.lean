/- Layer 14: what the reference's GetItab answers (on plain things). -/
import Derived.Test.YtapegklffglnoaaItP
import Derived.Test.YtapegklffglnoaaRefH
namespace Go.Proofs.Ytapegklffglnoaa
open Go.RowKit

theorem extract_more (s : ByteArray) (p n : Nat) (h : p + n ≤ s.size) : (s.extract p s.size).extract n (s.extract p s.size).size = s.extract (p + n) s.size := extract_after s p n h

theorem rnumS_at (s : ByteArray) (p : Nat) (h : p < s.size) : rnumS (s.extract p s.size) false 1 = (((s[p]'h).toNat : Int), s.extract (p + 1) s.size, false) := by
  have hz : (s.extract p s.size).size = s.size - p := by rw [ByteArray.size_extract]; omega
  have hr : readNum (s.extract p s.size) 1 = (((s[p]'h).toNat : Int), 0, s.extract (p + 1) s.size) := by
    unfold readNum
    rw [show isSizeB 1 = true from rfl, if_pos rfl, if_neg (by rw [hz]; omega)]
    rw [show (1 : Int).toNat = 1 from rfl, extract_more s p 1 (by omega), extract_twice s p 1 (by omega)]
    have hn : num (s.extract p (p + 1)) = (s[p]'h).toNat := by
      have e : (s.extract p (p + 1)).data.toList = [s[p]'h] := by
        apply List.ext_getElem
        · rw [data_length, ByteArray.size_extract]; simp; omega
        · intro i h1 h2
          have hi : i = 0 := by simpa using h2
          subst hi
          simp [ByteArray.data_extract]
          rfl
      unfold num
      rw [e]
      simp [numL]
    rw [hn]
  exact rnumS_ok hr

theorem rnumS_at2 (s : ByteArray) (p : Nat) (h : p + 1 < s.size) : rnumS (s.extract p s.size) false 2 = (((s[p]'(by omega)).toNat : Int) * 256 + ((s[p + 1]'h).toNat : Int), s.extract (p + 2) s.size, false) := by
  have hz : (s.extract p s.size).size = s.size - p := by rw [ByteArray.size_extract]; omega
  have hr : readNum (s.extract p s.size) 2 = (((s[p]'(by omega)).toNat : Int) * 256 + ((s[p + 1]'h).toNat : Int), 0, s.extract (p + 2) s.size) := by
    unfold readNum
    rw [show isSizeB 2 = true from rfl, if_pos rfl, if_neg (by rw [hz]; omega)]
    rw [show (2 : Int).toNat = 2 from rfl, extract_more s p 2 (by omega), extract_twice s p 2 (by omega)]
    have hn : num (s.extract p (p + 2)) = (s[p]'(by omega)).toNat * 256 + (s[p + 1]'h).toNat := by
      have e : (s.extract p (p + 2)).data.toList = [s[p]'(by omega), s[p + 1]'h] := by
        apply List.ext_getElem
        · rw [data_length, ByteArray.size_extract]; simp; omega
        · intro i h1 h2
          have hi : i = 0 ∨ i = 1 := by simp at h2; omega
          rcases hi with rfl | rfl
          · simp [ByteArray.data_extract]
            rfl
          · simp [ByteArray.data_extract]
            rfl
      unfold num
      rw [e]
      simp [numL]
      omega
    rw [hn]
    simp
  exact rnumS_ok hr

/-- The record at place p. -/
def recAt (s : ByteArray) (p : Nat) : Ino := ⟨((s[p]?.getD 0).toNat : Int), ((s[p + 1]?.getD 0).toNat : Int), ((s[p + 2]?.getD 0).toNat : Int), ((s[p + 3]?.getD 0).toNat : Int), ((s[p + 4]?.getD 0).toNat : Int) * 256 + ((s[p + 5]?.getD 0).toNat : Int), s.extract (p + 6) (p + 38)⟩

theorem rinoS_at (s : ByteArray) (p : Nat) (h : p + 38 ≤ s.size) : rinoS (s.extract p s.size) false = (recAt s p, s.extract (p + 38) s.size, false) := by
  have hz : (s.extract (p + 6) s.size).size = s.size - (p + 6) := by rw [ByteArray.size_extract]; omega
  have hh : rhashS (s.extract (p + 6) s.size) false = (s.extract (p + 6) (p + 38), s.extract (p + 38) s.size, false) := by
    unfold rhashS
    rw [if_neg (by decide), if_neg (by rw [hz]; omega), extract_more s (p + 6) 32 (by omega), extract_twice s (p + 6) 32 (by omega)]
  unfold rinoS recAt
  simp only [rnumS_at s p (by omega), rnumS_at s (p + 1) (by omega), rnumS_at s (p + 2) (by omega), rnumS_at s (p + 3) (by omega), rnumS_at2 s (p + 4) (by omega), hh, Nat.add_assoc]
  rw [getElem?_pos s p (by omega), getElem?_pos s (p + 1) (by omega), getElem?_pos s (p + 2) (by omega), getElem?_pos s (p + 3) (by omega), getElem?_pos s (p + 4) (by omega), getElem?_pos s (p + 5) (by omega)]
  rfl

/-- So many records from place p on. -/
def recs (s : ByteArray) (p : Nat) : Nat → List Ino
  | 0 => []
  | m + 1 => recAt s p :: recs s (p + 38) m
theorem recs_next (s : ByteArray) : ∀ (m p : Nat), recs s p (m + 1) = recs s p m ++ [recAt s (p + 38 * m)]
  | 0, p => by simp [recs]
  | m + 1, p => by
    show recAt s p :: recs s (p + 38) (m + 1) = (recAt s p :: recs s (p + 38) m) ++ _
    rw [recs_next s m (p + 38), show p + 38 + 38 * m = p + 38 * (m + 1) from by omega]
    rfl
theorem itemsS_at (s : ByteArray) : ∀ (m p : Nat), p + 38 * m ≤ s.size → itemsS m (s.extract p s.size) false = (recs s p m, s.extract (p + 38 * m) s.size, false)
  | 0, p, _ => rfl
  | m + 1, p, h => by
    have h1 := rinoS_at s p (by omega)
    have h2 := itemsS_at s m (p + 38) (by omega)
    rw [show p + 38 + 38 * m = p + 38 * (m + 1) from by omega] at h2
    simp [itemsS, h1, h2, recs]

/-- A text whose head and length fit. -/
def headOk (s : ByteArray) : Prop := 2 ≤ s.size ∧ s[0]? = some 84 ∧ s.size = 2 + 38 * (s[1]?.getD 0).toNat
theorem getS_ok {s : ByteArray} (h : headOk s) : getS s = if itabB (recs s 2 (s[1]?.getD 0).toNat) then (recs s 2 (s[1]?.getD 0).toNat, 0) else ([], 1400) := by
  obtain ⟨h1, h2, h3⟩ := h
  have e0 : s.extract 0 s.size = s := by
    have := cut_join s 0 (Nat.zero_le _)
    rw [show s.extract 0 0 = ByteArray.empty from bytes_ext (List.eq_nil_of_length_eq_zero (by rw [data_length, ByteArray.size_extract]; omega)), empty_append] at this
    exact this
  have hb0 : s[0]'(by omega) = 84 := by
    rw [getElem?_pos s 0 (by omega)] at h2
    exact Option.some.inj h2
  have hb1 : (s[1]?.getD 0) = s[1]'(by omega) := by rw [getElem?_pos s 1 (by omega)]; rfl
  have r0 := rnumS_at s 0 (by omega)
  rw [e0, hb0] at r0
  have k0 : rmarkS 84 s false = (s.extract 1 s.size, false) := by
    unfold rmarkS
    rw [r0]
    rfl
  have r1 := rnumS_at s 1 (by omega)
  have r2 := itemsS_at s (s[1]?.getD 0).toNat 2 (by omega)
  have hz : (s.extract (2 + 38 * (s[1]?.getD 0).toNat) s.size).size = 0 := by rw [ByteArray.size_extract]; omega
  rw [← hb1] at r1
  have r3 : itemsS (((s[1]?.getD 0).toNat : Nat) : Int).toNat (s.extract (1 + 1) s.size) false = _ := r2
  rw [getS_eq k0 r1 r3, hz]
  simp
theorem itemsS_fine {m : Nat} : ∀ {l l' : ByteArray} {f : Bool} {R : List Ino}, itemsS m l f = (R, l', false) → ∀ r ∈ R, r.fine := by
  induction m with
  | zero =>
    intro l l' f R h
    obtain ⟨rfl, -⟩ := Prod.mk.inj h
    intro r hr
    cases hr
  | succ m ih =>
    intro l l' f R h
    obtain ⟨x, l2, f2, e⟩ : ∃ p q r, rinoS l f = (p, q, r) := ⟨_, _, _, rfl⟩
    cases f2 with
    | true =>
      rw [itemsS_fail e] at h
      exact absurd (Prod.mk.inj (Prod.mk.inj h).2).2 (by decide)
    | false =>
      obtain ⟨Y, hY, -, hR⟩ := itemsS_next e h
      rw [hR rfl]
      intro r hr
      rcases List.mem_cons.1 hr with rfl | hr
      · exact (rinoS_of e).2.2
      · exact ih hY r hr
theorem getS_fine {s : ByteArray} {R : List Ino} {x : Int} (h : getS s = (R, x)) : ∀ r ∈ R, r.fine := by
  obtain ⟨l0, f0, e0⟩ : ∃ p q, rmarkS 84 s false = (p, q) := ⟨_, _, rfl⟩
  obtain ⟨n, l1, f1, e1⟩ : ∃ p q r, rnumS l0 f0 1 = (p, q, r) := ⟨_, _, _, rfl⟩
  obtain ⟨R2, l2, f2, e2⟩ : ∃ p q r, itemsS n.toNat l1 f1 = (p, q, r) := ⟨_, _, _, rfl⟩
  rw [getS_eq e0 e1 e2] at h
  split at h
  · rename_i hc
    obtain ⟨rfl, rfl⟩ := Prod.mk.inj h
    rw [Bool.and_eq_true, Bool.and_eq_true] at hc
    have hf2 : f2 = false := by simpa using hc.1.1
    subst hf2
    exact itemsS_fine e2
  · rw [← (Prod.mk.inj h).1]
    intro r hr
    cases hr
theorem getS_bad {s : ByteArray} (h : ¬ headOk s) : getS s = ([], 1400) := by
  obtain ⟨R, x, e⟩ : ∃ p q, getS s = (p, q) := ⟨_, _, rfl⟩
  rcases putS_getS e with ⟨-, hi, hp⟩ | ⟨rfl, rfl⟩
  · refine absurd ?_ h
    rw [putS_yes hi] at hp
    have hs := (Prod.mk.inj hp).1
    have hl := itab_len (itabB_of hi)
    have hf := getS_fine e
    have hsz : s.size = 2 + 38 * R.length := by
      rw [← hs]
      unfold tabBytes
      rw [tabFrom_size hf, size_append, size_append, be_size]
      rfl
    have hd : s.data.toList = 84 :: (UInt8.ofNat R.length :: (tabFrom ByteArray.empty R).data.toList) := by
      rw [← hs]
      unfold tabBytes
      rw [tabFrom_front, show (⟨#[]⟩ : ByteArray) ++ ⟨#[84]⟩ = ⟨#[84]⟩ from empty_append _, data_append, data_append, show (be 1 R.length).data.toList = beL 1 R.length from rfl, beL_succ]
      rfl
    have g : ∀ (i : Nat), s[i]? = s.data.toList[i]? := fun i => by
      by_cases hi : i < s.size
      · rw [getElem?_pos s i hi, List.getElem?_eq_getElem (by rw [data_length]; exact hi)]
        rfl
      · rw [getElem?_neg s i hi, List.getElem?_eq_none (by rw [data_length]; omega)]
    refine ⟨by omega, by rw [g, hd]; rfl, ?_⟩
    rw [g 1, hd, hsz]
    show 2 + 38 * R.length = 2 + 38 * (UInt8.ofNat R.length).toNat
    rw [UInt8.toNat_ofNat']
    omega
  · exact e

end Go.Proofs.Ytapegklffglnoaa
