/- Layer 13: the reference's GetDir. -/
import Derived.Test.YtapegklffglnoaaDirRf
import Derived.Test.YtapegklffglnoaaRefT
import Derived.Test.YtapegklffglnoaaItM
namespace Go.Proofs.Ytapegklffglnoaa
open Go.RowKit

theorem own_grown {w w' : World} {n0 c k sz g : Nat} {A : Option Addr} {t : TypeId} {cs : List Value} (h : w.ownsRow n0 t sz (.slice A k c) k cs) (hg : w.grownBy w' (some g)) (hne : (Value.slice A k c).ownBlock ≠ some g) : w'.ownsRow n0 t sz (.slice A k c) k cs := by
  have hlt := h.lt
  obtain ⟨h1, h2 | ⟨q, cap, cur, hv, hB, hh, rest⟩⟩ := h
  · exact ⟨h1, .inl h2⟩
  · refine ⟨h1, .inr ⟨q, cap, cur, hv, hB, ?_, rest⟩⟩
    have hq : (Value.slice A k c).ownBlock = some q := by rw [hv]; rfl
    rw [hg.block q (hlt q hq).2 (fun e => hne (hq.trans e))]
    exact hh

theorem rentS_ok {l l1 l2 l3 x : ByteArray} {a b : Int} (h1 : readText l 1 = (x, 0, l1)) (h2 : readNum l1 1 = (a, 0, l2)) (h3 : readNum l2 1 = (b, 0, l3)) : rentS l false = (⟨x, a, b⟩, l3, false) := by
  unfold rentS
  simp only [rtextS_ok h1, rnumS_ok h2, rnumS_ok h3]
theorem rentS_bad {l l1 l2 l3 x : ByteArray} {a b k1 k2 k3 : Int} (h1 : readText l 1 = (x, k1, l1)) (h2 : readNum l1 1 = (a, k2, l2)) (h3 : readNum l2 1 = (b, k3, l3)) (h : ¬ (k1 = 0 ∧ k2 = 0 ∧ k3 = 0)) : ∃ y l', rentS l false = (y, l', true) := by
  unfold rentS
  by_cases e1 : k1 = 0
  · subst e1
    by_cases e2 : k2 = 0
    · subst e2
      have e3 : k3 ≠ 0 := fun e => h ⟨rfl, rfl, e⟩
      simp only [rtextS_ok h1, rnumS_ok h2, rnumS_err h3 e3]
      exact ⟨_, _, rfl⟩
    · simp only [rtextS_ok h1, rnumS_err h2 e2, rnumS_fail]
      exact ⟨_, _, rfl⟩
  · simp only [rtextS_err h1 e1, rnumS_fail]
    exact ⟨_, _, rfl⟩

theorem one_num (s : ByteArray) (p : Nat) (h : p < s.size) : rnumS (s.extract p s.size) false 1 = (((s[p]'h).toNat : Int), s.extract (p + 1) s.size, false) := rnumS_at s p h
theorem all_of (s : ByteArray) : s.extract 0 s.size = s := by
  have := cut_join s 0 (Nat.zero_le _)
  rw [show s.extract 0 0 = ByteArray.empty from bytes_ext (List.eq_nil_of_length_eq_zero (by rw [data_length, ByteArray.size_extract]; omega)), empty_append] at this
  exact this
theorem egetS_head {s : ByteArray} (h2 : 2 ≤ s.size) (h0 : s[0]'(by omega) = 68) {R : List Ent} {l' : ByteArray} {f' : Bool} (h : eitemsS (s[1]'(by omega)).toNat (s.extract 2 s.size) false = (R, l', f')) :
    egetS s = if !f' && decide (l'.size = 0) && dirB R then (R, 0) else ([], 1300) := by
  have hm : rmarkS 68 s false = (s.extract 1 s.size, false) := by
    unfold rmarkS
    rw [← all_of s, rnumS_at s 0 (by omega), all_of, h0]
    rfl
  have hn := rnumS_at s 1 (by omega)
  exact egetS_eq hm hn (by rw [Int.toNat_natCast]; exact h)
theorem eitemsS_true : ∀ (m : Nat) (l : ByteArray), ∃ l', eitemsS m l true = ([], l', true) ∨ m = 0
  | 0, l => ⟨l, .inr rfl⟩
  | m + 1, l => by
    have h : ∃ x l2, rentS l true = (x, l2, true) := by
      unfold rentS
      simp only [rtextS_fail, rnumS_fail]
      exact ⟨_, _, rfl⟩
    obtain ⟨x, l2, h⟩ := h
    exact ⟨l2, .inl (eitemsS_fail h)⟩
theorem egetS_fails {s l0 l1 l' : ByteArray} {f0 f1 f' : Bool} {x : Int} {R : List Ent} (h0 : rmarkS 68 s false = (l0, f0)) (h1 : rnumS l0 f0 1 = (x, l1, f1)) (h2 : eitemsS x.toNat l1 f1 = (R, l', f')) (hf : f' = true) : egetS s = ([], 1300) := by
  rw [egetS_eq h0 h1 h2, hf]
  rfl
theorem eitems_f {m : Nat} {l l' : ByteArray} {f' : Bool} {R : List Ent} (h : eitemsS m l true = (R, l', f')) : f' = true := by
  cases m with
  | zero => exact (Prod.mk.inj (Prod.mk.inj h).2).2.symm
  | succ m =>
    obtain ⟨l2, h2 | h2⟩ := eitemsS_true (m + 1) l
    · rw [h] at h2
      exact (Prod.mk.inj (Prod.mk.inj h2).2).2
    · cases h2
theorem egetS_short {s : ByteArray} (h : s.size < 2) : egetS s = ([], 1300) := by
  obtain ⟨l0, f0, e0⟩ : ∃ p q, rmarkS 68 s false = (p, q) := ⟨_, _, rfl⟩
  obtain ⟨n, l1, f1, e1⟩ : ∃ p q r, rnumS l0 f0 1 = (p, q, r) := ⟨_, _, _, rfl⟩
  obtain ⟨R2, l2, f2, e2⟩ : ∃ p q r, eitemsS n.toNat l1 f1 = (p, q, r) := ⟨_, _, _, rfl⟩
  have hf1 : f1 = true := by
    cases hf0 : f0 with
    | true => rw [hf0, rnumS_fail] at e1; exact (Prod.mk.inj (Prod.mk.inj e1).2).2.symm
    | false =>
      have hl0 : l0.size < 1 := by
        by_cases hs : s.size = 0
        · have h1 : l0.size ≤ s.size := by
            unfold rmarkS at e0
            rw [← (Prod.mk.inj e0).1]
            exact rnumS_less (Prod.eta _).symm
          omega
        · have hr := rnumS_at s 0 (by omega)
          rw [all_of] at hr
          unfold rmarkS at e0
          rw [hr] at e0
          rw [← (Prod.mk.inj e0).1]
          show (s.extract (0 + 1) s.size).size < 1
          rw [ByteArray.size_extract]
          omega
      rw [hf0, rnumS_err (readNum_cut (s := l0) (size := 1) rfl (by omega)) (by decide)] at e1
      exact (Prod.mk.inj (Prod.mk.inj e1).2).2.symm
  subst hf1
  exact egetS_fails e0 e1 e2 (eitems_f e2)
theorem egetS_mark {s : ByteArray} (h2 : 2 ≤ s.size) (h0 : s[0]'(by omega) ≠ 68) : egetS s = ([], 1300) := by
  obtain ⟨l0, f0, e0⟩ : ∃ p q, rmarkS 68 s false = (p, q) := ⟨_, _, rfl⟩
  obtain ⟨n, l1, f1, e1⟩ : ∃ p q r, rnumS l0 f0 1 = (p, q, r) := ⟨_, _, _, rfl⟩
  obtain ⟨R2, l2, f2, e2⟩ : ∃ p q r, eitemsS n.toNat l1 f1 = (p, q, r) := ⟨_, _, _, rfl⟩
  have hf0 : f0 = true := by
    have hr := rnumS_at s 0 (by omega)
    rw [all_of] at hr
    unfold rmarkS at e0
    rw [hr] at e0
    rw [← (Prod.mk.inj e0).2, decide_eq_true, Bool.or_true]
    intro e
    have e' : ((s[0]'(by omega)).toNat : Int) = ((68 : UInt8).toNat : Int) := e
    exact h0 (UInt8.toNat_inj.1 (by omega))
  have hf1 : f1 = true := by rw [hf0, rnumS_fail] at e1; exact (Prod.mk.inj (Prod.mk.inj e1).2).2.symm
  subst hf1
  exact egetS_fails e0 e1 e2 (eitems_f e2)

end Go.Proofs.Ytapegklffglnoaa
