/- Layer 14: what is put is got, and the other way round (on plain things). -/
import Derived.Test.YtapegklffglnoaaItAll
namespace Go.Proofs.Ytapegklffglnoaa
open Go.RowKit

theorem beL_numL : ∀ (n : Nat) (l : List UInt8), l.length = n → beL n (numL l) = l
  | 0, l, h => by rw [List.eq_nil_of_length_eq_zero h]; rfl
  | n + 1, l, h => by
    have hne : l ≠ [] := fun e => by rw [e] at h; cases h
    have e := (List.dropLast_concat_getLast hne).symm
    generalize l.dropLast = a at e
    generalize l.getLast hne = b at e
    subst e
    have ha : a.length = n := by simpa using h
    have hb := b.toNat_lt
    rw [beL_succ, numL_snoc, show (256 * numL a + b.toNat) / 256 = numL a from by omega, beL_numL n a ha]
    congr 1
    rw [List.cons.injEq]
    refine ⟨?_, rfl⟩
    apply UInt8.toNat_inj.1
    rw [UInt8.toNat_ofNat']
    omega
theorem be_num_of (a : ByteArray) (n : Nat) (h : a.size = n) : be n (num a) = a := by
  apply bytes_ext
  exact beL_numL n _ (by rw [data_length, h])
theorem cut_join (l : ByteArray) (n : Nat) (h : n ≤ l.size) : l.extract 0 n ++ l.extract n l.size = l := by
  apply bytes_ext
  rw [data_append]
  have e : ∀ a b : Nat, (l.extract a b).data.toList = (l.data.toList.take b).drop a := fun a b => by
    simp [ByteArray.data_extract, List.extract_eq_take_drop]
    rw [List.drop_take]
  rw [e, e, List.drop_zero]
  have e2 : l.data.toList.take l.size = l.data.toList := List.take_of_length_le (by rw [data_length]; exact Nat.le_refl _)
  rw [e2]
  exact List.take_append_drop _ _

theorem rnumS_be {x size : Int} {r : ByteArray} (h : fitsB x size = true) : rnumS (be size.toNat x.toNat ++ r) false size = (x, r, false) := rnumS_ok (readNum_back x size r h)

theorem rnumS_of {l l' : ByteArray} {x size : Int} (hs : size = 1 ∨ size = 2) (h : rnumS l false size = (x, l', false)) : l = be size.toNat x.toNat ++ l' := by
  unfold rnumS at h
  rw [if_neg (by decide)] at h
  split at h
  · rename_i hk
    have hsz : isSizeB size = true := by rcases hs with rfl | rfl <;> rfl
    unfold readNum at h hk
    rw [if_pos hsz] at h hk
    split at hk
    · cases hk
    · rename_i hlt
      rw [if_neg hlt] at h
      have e1 := (Prod.mk.inj h).1
      have e2 := (Prod.mk.inj (Prod.mk.inj h).2).1
      dsimp only at e1 e2
      have hle : size.toNat ≤ l.size := by omega
      rw [← e1, ← e2, Int.toNat_natCast, be_num_of _ _ (by rw [ByteArray.size_extract]; omega), cut_join _ _ hle]
  · exact absurd (Prod.mk.inj (Prod.mk.inj h).2).2 (by decide)

theorem rnumS_bad (l : ByteArray) (size : Int) : (rnumS l true size).2.2 = true := rfl
theorem rnumS_true {l l' : ByteArray} {x size : Int} {f : Bool} (h : rnumS l f size = (x, l', false)) : f = false := by
  cases f with
  | false => rfl
  | true => exact absurd (Prod.mk.inj (Prod.mk.inj h).2).2 (by decide)

theorem rhashS_of {l l' x : ByteArray} {f : Bool} (h : rhashS l f = (x, l', false)) : f = false ∧ l = x ++ l' := by
  unfold rhashS at h
  split at h
  · exact absurd (Prod.mk.inj (Prod.mk.inj h).2).2 (by decide)
  · split at h
    · exact absurd (Prod.mk.inj (Prod.mk.inj h).2).2 (by decide)
    · rename_i hf hl
      refine ⟨by simpa using hf, ?_⟩
      rw [← (Prod.mk.inj h).1, ← (Prod.mk.inj (Prod.mk.inj h).2).1, cut_join _ _ (by omega)]

theorem rhashS_back {x r : ByteArray} (h : x.size = 32) : rhashS (x ++ r) false = (x, r, false) := by
  unfold rhashS
  rw [if_neg (by decide), if_neg (by rw [size_append]; omega), extract_left _ _ _ h, extract_right _ _ _ h]

theorem rinoS_back {x : Ino} {r : ByteArray} (hx : x.fine) (hm : x.may = true) : rinoS (x.bytes ++ r) false = (x, r, false) := by
  obtain ⟨f1, f2, f3, f4, f5⟩ := x.fits hm
  have e : x.bytes ++ r = be (1 : Int).toNat x.num.toNat ++ (be (1 : Int).toNat x.kind.toNat ++ (be (1 : Int).toNat x.mode.toNat ++ (be (1 : Int).toNat x.links.toNat ++ (be (2 : Int).toNat x.size.toNat ++ (x.root ++ r))))) := by
    unfold Ino.bytes
    simp only [append_assoc]
    rfl
  rw [e]
  unfold rinoS
  simp only [rnumS_be f1, rnumS_be f2, rnumS_be f3, rnumS_be f4, rnumS_be f5, rhashS_back (show x.root.size = 32 from hx)]

theorem rinoS_of {l l' : ByteArray} {x : Ino} {f : Bool} (h : rinoS l f = (x, l', false)) : f = false ∧ l = x.bytes ++ l' ∧ x.fine := by
  obtain ⟨a1, l1, f1, e1⟩ : ∃ p q r, rnumS l f 1 = (p, q, r) := ⟨_, _, _, rfl⟩
  obtain ⟨a2, l2, f2, e2⟩ : ∃ p q r, rnumS l1 f1 1 = (p, q, r) := ⟨_, _, _, rfl⟩
  obtain ⟨a3, l3, f3, e3⟩ : ∃ p q r, rnumS l2 f2 1 = (p, q, r) := ⟨_, _, _, rfl⟩
  obtain ⟨a4, l4, f4, e4⟩ : ∃ p q r, rnumS l3 f3 1 = (p, q, r) := ⟨_, _, _, rfl⟩
  obtain ⟨a5, l5, f5, e5⟩ : ∃ p q r, rnumS l4 f4 2 = (p, q, r) := ⟨_, _, _, rfl⟩
  obtain ⟨y, l6, f6, e6⟩ : ∃ p q r, rhashS l5 f5 = (p, q, r) := ⟨_, _, _, rfl⟩
  have h2 : ((⟨a1, a2, a3, a4, a5, y⟩ : Ino), l6, f6) = (x, l', false) := by
    rw [← h]
    unfold rinoS
    simp only [e1, e2, e3, e4, e5, e6]
  obtain ⟨hx, h3⟩ := Prod.mk.inj h2
  obtain ⟨rfl, rfl⟩ := Prod.mk.inj h3
  obtain ⟨rfl, hl5⟩ := rhashS_of e6
  obtain rfl := rnumS_true e5
  obtain rfl := rnumS_true e4
  obtain rfl := rnumS_true e3
  obtain rfl := rnumS_true e2
  obtain rfl := rnumS_true e1
  refine ⟨rfl, ?_, by rw [← hx]; exact rhashS_size e6⟩
  rw [rnumS_of (.inl rfl) e1, rnumS_of (.inl rfl) e2, rnumS_of (.inl rfl) e3, rnumS_of (.inl rfl) e4, rnumS_of (.inr rfl) e5, hl5, ← hx]
  unfold Ino.bytes
  simp only [append_assoc]
  rfl

theorem tabFrom_front {xs : List Ino} : ∀ {s : ByteArray}, tabFrom s xs = s ++ tabFrom ByteArray.empty xs := by
  induction xs with
  | nil => intro s; exact (append_empty s).symm
  | cons x xs ih =>
    intro s
    show tabFrom (s ++ x.bytes) xs = s ++ tabFrom (ByteArray.empty ++ x.bytes) xs
    rw [ih, ih (s := ByteArray.empty ++ x.bytes), empty_append, append_assoc]
theorem tab_cons (x : Ino) (xs : List Ino) : tabFrom ByteArray.empty (x :: xs) = x.bytes ++ tabFrom ByteArray.empty xs := by
  show tabFrom (ByteArray.empty ++ x.bytes) xs = _
  rw [empty_append, tabFrom_front]

theorem itemsS_back {xs : List Ino} (hf : ∀ x ∈ xs, x.fine) (hm : ∀ x ∈ xs, x.may = true) (r : ByteArray) : itemsS xs.length (tabFrom ByteArray.empty xs ++ r) false = (xs, r, false) := by
  induction xs with
  | nil => show (([] : List Ino), ByteArray.empty ++ r, false) = _; rw [empty_append]
  | cons x xs ih =>
    have h1 := ih (fun y hy => hf y (List.mem_cons_of_mem _ hy)) (fun y hy => hm y (List.mem_cons_of_mem _ hy))
    have h2 := rinoS_back (r := tabFrom ByteArray.empty xs ++ r) (hf x (List.mem_cons_self ..)) (hm x (List.mem_cons_self ..))
    rw [tab_cons, append_assoc, List.length_cons]
    simp [itemsS, h1, h2]

theorem itemsS_of {m : Nat} : ∀ {l l' : ByteArray} {f : Bool} {R : List Ino}, itemsS m l f = (R, l', false) → R.length = m ∧ f = false ∧ l = tabFrom ByteArray.empty R ++ l' := by
  induction m with
  | zero =>
    intro l l' f R h
    obtain ⟨rfl, h2⟩ := Prod.mk.inj h
    obtain ⟨rfl, rfl⟩ := Prod.mk.inj h2
    exact ⟨rfl, rfl, (empty_append _).symm⟩
  | succ m ih =>
    intro l l' f R h
    obtain ⟨x, l2, f2, e⟩ : ∃ p q r, rinoS l f = (p, q, r) := ⟨_, _, _, rfl⟩
    cases f2 with
    | true =>
      rw [itemsS_fail e] at h
      exact absurd (Prod.mk.inj (Prod.mk.inj h).2).2 (by decide)
    | false =>
      obtain ⟨Y, hY, -, hR⟩ := itemsS_next e h
      obtain ⟨h1, -, h2⟩ := ih hY
      obtain ⟨h3, h4, -⟩ := rinoS_of e
      rw [hR rfl, List.length_cons, h1, tab_cons, append_assoc, ← h2]
      exact ⟨rfl, h3, h4⟩

theorem rmark_back (r : ByteArray) : rmarkS 84 ((⟨#[84]⟩ : ByteArray) ++ r) false = (r, false) := by
  have h := rnumS_be (x := 84) (size := 1) (r := r) (by decide)
  rw [show be (1 : Int).toNat (84 : Int).toNat = (⟨#[84]⟩ : ByteArray) from one_be 84] at h
  unfold rmarkS
  rw [h]
  rfl
theorem rmark_of {l l' : ByteArray} (h : rmarkS 84 l false = (l', false)) : l = (⟨#[84]⟩ : ByteArray) ++ l' := by
  obtain ⟨x, l2, f2, e⟩ : ∃ p q r, rnumS l false 1 = (p, q, r) := ⟨_, _, _, rfl⟩
  unfold rmarkS at h
  rw [e] at h
  obtain ⟨rfl, h2⟩ := Prod.mk.inj h
  obtain ⟨h3, h4⟩ := Bool.or_eq_false_iff.1 h2
  dsimp only at h3 h4
  subst h3
  have hx : x = 84 := by
    have := of_decide_eq_false h4
    exact Decidable.of_not_not this
  subst hx
  rw [rnumS_of (.inl rfl) e]
  exact congrArg (· ++ l2) (one_be 84)

/-- What is put is got. -/
theorem getS_putS {xs : List Ino} (hf : ∀ x ∈ xs, x.fine) (h : itabB xs = true) : getS (tabBytes xs) = (xs, 0) := by
  have hT := itabB_of h
  have hl := itab_len hT
  have e : tabBytes xs = (⟨#[84]⟩ : ByteArray) ++ (be (1 : Int).toNat (xs.length : Int).toNat ++ (tabFrom ByteArray.empty xs ++ ByteArray.empty)) := by
    unfold tabBytes
    rw [tabFrom_front, append_empty, show (⟨#[]⟩ : ByteArray) ++ ⟨#[84]⟩ = ⟨#[84]⟩ from empty_append _, append_assoc]
    rfl
  have h3 : itemsS ((xs.length : Int)).toNat (tabFrom ByteArray.empty xs ++ ByteArray.empty) false = (xs, ByteArray.empty, false) := itemsS_back hf hT.1 _
  rw [e, getS_eq (rmark_back _) (rnumS_be (x := (xs.length : Int)) (size := 1) (fits1 (by omega) (by omega))) h3, h]
  rfl
/-- What is got is put. -/
theorem putS_getS {s : ByteArray} {R : List Ino} {x : Int} (h : getS s = (R, x)) : (x = 0 ∧ itabB R = true ∧ putS R = (s, 0)) ∨ (x = 1400 ∧ R = []) := by
  obtain ⟨l0, f0, e0⟩ : ∃ p q, rmarkS 84 s false = (p, q) := ⟨_, _, rfl⟩
  obtain ⟨n, l1, f1, e1⟩ : ∃ p q r, rnumS l0 f0 1 = (p, q, r) := ⟨_, _, _, rfl⟩
  obtain ⟨R2, l2, f2, e2⟩ : ∃ p q r, itemsS n.toNat l1 f1 = (p, q, r) := ⟨_, _, _, rfl⟩
  rw [getS_eq e0 e1 e2] at h
  split at h
  · rename_i hc
    obtain ⟨rfl, rfl⟩ := Prod.mk.inj h
    rw [Bool.and_eq_true, Bool.and_eq_true] at hc
    obtain ⟨⟨hc1, hc2⟩, hc3⟩ := hc
    have hf2 : f2 = false := by simpa using hc1
    subst hf2
    have hz := of_decide_eq_true hc2
    obtain ⟨hlen, rfl, hl1⟩ := itemsS_of e2
    obtain rfl := rnumS_true e1
    have hsm := rnumS_small e1
    refine .inl ⟨rfl, hc3, ?_⟩
    rw [putS_yes hc3]
    congr 1
    have hl2 : l2 = ByteArray.empty := bytes_ext (List.eq_nil_of_length_eq_zero (by rw [data_length, hz]))
    rw [rmark_of e0, rnumS_of (.inl rfl) e1, hl1, hl2, append_empty]
    unfold tabBytes
    rw [tabFrom_front, show (⟨#[]⟩ : ByteArray) ++ ⟨#[84]⟩ = ⟨#[84]⟩ from empty_append _, append_assoc, hlen]
    rfl
  · exact .inr ⟨(Prod.mk.inj h).2.symm, (Prod.mk.inj h).1.symm⟩

end Go.Proofs.Ytapegklffglnoaa
