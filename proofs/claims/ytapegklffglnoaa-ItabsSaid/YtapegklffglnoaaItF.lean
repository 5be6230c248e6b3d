/- Layer 14: a table's inodes read. -/
import Derived.Test.YtapegklffglnoaaItE
namespace Go.Proofs.Ytapegklffglnoaa
open Go.RowKit
open Go.Lib (strCells strCells_length strCells_oneCell)

/-- So many inodes read: which, what is left, has it failed? -/
def itemsS : Nat → ByteArray → Bool → List Ino × ByteArray × Bool
  | 0, l, f => ([], l, f)
  | m + 1, l, f =>
    if (rinoS l f).2.2 then ([], (rinoS l f).2.1, true)
    else if (itemsS m (rinoS l f).2.1 false).2.2 then ([], (itemsS m (rinoS l f).2.1 false).2.1, true)
    else ((rinoS l f).1 :: (itemsS m (rinoS l f).2.1 false).1, (itemsS m (rinoS l f).2.1 false).2.1, false)

theorem itemsS_fail {m : Nat} {l l2 : ByteArray} {f : Bool} {x : Ino} (h : rinoS l f = (x, l2, true)) : itemsS (m + 1) l f = ([], l2, true) := by
  simp [itemsS, h]
theorem itemsS_next {m : Nat} {l l2 l' : ByteArray} {f f' : Bool} {x : Ino} {R : List Ino} (h : rinoS l f = (x, l2, false)) (hk : itemsS (m + 1) l f = (R, l', f')) :
    ∃ Y, itemsS m l2 false = (Y, l', f') ∧ (f' = true → R = []) ∧ (f' = false → R = x :: Y) := by
  obtain ⟨Y, l3, f3, e⟩ : ∃ p q r, itemsS m l2 false = (p, q, r) := ⟨_, _, _, rfl⟩
  cases f3 with
  | true =>
    simp [itemsS, h, e] at hk
    obtain ⟨rfl, rfl, rfl⟩ := hk
    exact ⟨Y, e, fun _ => rfl, fun h => by cases h⟩
  | false =>
    simp [itemsS, h, e] at hk
    obtain ⟨rfl, rfl, rfl⟩ := hk
    exact ⟨Y, e, fun h => (by cases h), fun _ => rfl⟩
theorem itemsS_nil {m : Nat} : ∀ {l l' : ByteArray} {f : Bool} {R : List Ino}, itemsS m l f = (R, l', true) → R = [] := by
  cases m with
  | zero => intro l l' f R h; exact (Prod.mk.inj h).1.symm
  | succ m =>
    intro l l' f R h
    unfold itemsS at h
    split at h
    · exact (Prod.mk.inj h).1.symm
    · split at h
      · exact (Prod.mk.inj h).1.symm
      · exact absurd (Prod.mk.inj (Prod.mk.inj h).2).2 (by decide)

theorem Try.infoInoI : (Try.prog.info? 78).map (fun i => (i.zero, i.size, i.bytes)) = some (some (.agg z37), 37, 72) := by kernel_rfl

/-- Inodes' cells in a row. -/
def inoCells (xs : List Ino) : List Value := xs.flatMap Ino.cells
theorem inoCells_snoc (xs : List Ino) (x : Ino) : inoCells (xs ++ [x]) = inoCells xs ++ x.cells := by simp [inoCells]
theorem inoCells_length {xs : List Ino} (h : ∀ x ∈ xs, x.fine) : (inoCells xs).length = xs.length * 37 := by
  induction xs with
  | nil => rfl
  | cons x xs ih =>
    show (x.cells ++ inoCells xs).length = _
    rw [List.length_append, Ino.len (h x (List.mem_cons_self ..)), ih fun y hy => h y (List.mem_cons_of_mem _ hy), List.length_cons]
    omega
theorem inoCells_at {xs : List Ino} (h : ∀ x ∈ xs, x.fine) : ∀ (i : Nat) (hi : i < xs.length) (j : Nat) (v : Value), xs[i].cells[j]? = some v → (inoCells xs)[i * 37 + j]? = some v := by
  induction xs with
  | nil => intro i hi; cases hi
  | cons x xs ih =>
    intro i hi j v hv
    have hx := Ino.len (h x (List.mem_cons_self ..))
    show (x.cells ++ inoCells xs)[_]? = _
    cases i with
    | zero =>
      have hj : j < x.cells.length := (List.getElem?_eq_some_iff.1 hv).1
      rw [Nat.zero_mul, Nat.zero_add, List.getElem?_append_left hj]
      exact hv
    | succ i =>
      rw [List.getElem?_append_right (by rw [hx]; omega), show (i + 1) * 37 + j - x.cells.length = i * 37 + j from by rw [hx]; omega]
      exact ih (fun y hy => h y (List.mem_cons_of_mem _ hy)) i (by simpa using hi) j v hv

/-- The row of the inodes read so far: what is held of it. -/
def Got (n0 : Nat) (A : Option Addr) (c : Nat) (xs : List Ino) (ex : Exts) : Prop :=
  (∀ x ∈ xs, x.fine) ∧ ((A = none ∧ c = 0 ∧ xs = [] ∧ ex = []) ∨
    ∃ rb cur, A = some ⟨rb, 0, none⟩ ∧ n0 ≤ rb ∧ ex = [(rb, 78, cur)] ∧ xs.length ≤ c ∧ c ≤ maxLen ∧ cur.length = c * 37 ∧ cur.take (xs.length * 37) = inoCells xs)
theorem Got.none (n0 : Nat) : Got n0 none 0 [] [] := ⟨fun x hx => (by cases hx), .inl ⟨rfl, rfl, rfl, rfl⟩⟩

section
variable {w w' : World} {B g h n0 : Nat} {l : ByteArray} {f : Bool} {ext ex : Exts} {A : Option Addr} {c : Nat} {xs : List Ino}

theorem GetSt.keepN (hp : GetSt w B g h l f ext) {n : Nat} (hn : ExtLt n g h ext) (hb : Below n w w') : GetSt w' B g h l f ext :=
  ⟨hp.1.below hb hn.1, Holds.below hp.2.1 hb hn.2.1, hp.2.2.1, fun x hx => ⟨(hp.2.2.2.1 x hx).1.below hb (hn.2.2 x hx), (hp.2.2.2.1 x hx).2⟩, hp.2.2.2.2.1, hp.2.2.2.2.2.1, Nat.le_trans hp.2.2.2.2.2.2 hb.size⟩

theorem Got.own (hg : Got n0 A c xs ex) (hp : GetSt w B g h l f (ex ++ ext)) : w.ownsRow n0 78 37 (.slice A xs.length c) xs.length (inoCells xs) := by
  obtain ⟨hf, ⟨rfl, rfl, rfl, rfl⟩ | ⟨rb, cur, rfl, hrb, rfl, h1, h2, h3, h4⟩⟩ := hg
  · exact World.ownsRow_nil w _ _ _
  · have hh := hp.held (q := rb) (t := 78) (cs := cur) (List.mem_append_left _ (List.mem_singleton.2 rfl))
    exact ⟨inoCells_length hf, .inr ⟨rb, c, cur.toArray, rfl, hrb, hh, h1, h2, by rw [List.size_toArray, h3], by simpa using h4⟩⟩

theorem Got.of_own (hf : ∀ x ∈ xs, x.fine) (hlt : ExtLt n0 g h ext) (hp : GetSt w B g h l f ext) (hrow : w.ownsRow n0 78 37 (.slice A xs.length c) xs.length (inoCells xs)) : ∃ ex, Got n0 A c xs ex ∧ GetSt w B g h l f (ex ++ ext) := by
  obtain ⟨_, ⟨hv, h0⟩ | ⟨rb, cap, cur, hv, hrb, hh, h1, h2, h3, h4⟩⟩ := hrow
  · injection hv with e1 e2 e3
    subst e1; subst e3
    obtain rfl := List.eq_nil_of_length_eq_zero h0
    exact ⟨[], Got.none n0, hp⟩
  · injection hv with e1 e2 e3
    subst e1; subst e3
    refine ⟨[(rb, 78, cur.toList)], ⟨hf, .inr ⟨rb, cur.toList, rfl, hrb, rfl, h1, h2, by rw [Array.length_toList, h3], h4⟩⟩, ?_⟩
    obtain ⟨k1, k2, k3, k4, k5, k6, k7⟩ := hp
    refine ⟨k1, k2, k3, fun x hx => ?_, k5, k6, k7⟩
    rcases List.mem_cons.1 hx with rfl | hx
    · exact ⟨hh, fun e => by have := hlt.1; dsimp only at e; omega, fun e => by have := hlt.2.1; dsimp only at e; omega⟩
    · exact k4 x hx

theorem Got.inos (hg : Got n0 A c xs ex) (hp : GetSt w B g h l f (ex ++ ext)) : Inos w w.heap.size A xs.length xs := by
  have hat := At.of_own (hg.own hp)
  refine ⟨rfl, hg.1, ?_⟩
  rcases hat.2 with h0 | ⟨p, hA, hB, hc⟩
  · exact .inl h0
  · refine .inr ⟨p, hA, hB, fun i hi j v hv => ?_⟩
    have h1 := inoCells_at hg.1 i hi j v hv
    obtain ⟨hlt, hv2⟩ := List.getElem?_eq_some_iff.1 h1
    have h2 := hc _ hlt
    rw [hv2] at h2
    rw [show (p.add (i * 37)).add j = p.add (i * 37 + j) from add_add _ _ _]
    exact h2
end

theorem rnumS_small {l l' : ByteArray} {f f' : Bool} {x : Int} (h : rnumS l f 1 = (x, l', f')) : 0 ≤ x ∧ x ≤ 255 := by
  unfold rnumS at h
  split at h
  · rw [← (Prod.mk.inj h).1]; decide
  · split at h
    · rw [← (Prod.mk.inj h).1]
      unfold readNum
      rw [show isSizeB 1 = true from rfl, if_pos rfl]
      split
      · exact ⟨Int.le_refl _, by show (0 : Int) ≤ 255; decide⟩
      · rename_i hs
        have h1 := numL_lt (l.extract 0 (1 : Int).toNat).data.toList
        have h2 : (l.extract 0 (1 : Int).toNat).data.toList.length = 1 := by
          rw [Array.length_toList]
          show (l.extract 0 1).size = 1
          rw [ByteArray.size_extract]
          omega
        rw [h2] at h1
        show 0 ≤ ((num (l.extract 0 (1 : Int).toNat) : Nat) : Int) ∧ ((num (l.extract 0 (1 : Int).toNat) : Nat) : Int) ≤ 255
        have h3 : num (l.extract 0 (1 : Int).toNat) < 256 ^ 1 := h1
        omega
    · rw [← (Prod.mk.inj h).1]; decide

end Go.Proofs.Ytapegklffglnoaa
