/- What is written and read again: acts that were done, and their bytes. -/
import Derived.Test.YtlbmlnefglgonabWireReads
namespace Go.Proofs.Ytlbmlnefglgonab
open Go.RowKit
open Go.Lib (strCells strCells_length strCells_oneCell)

/-- What an act writes. -/
def pieceOf (a : ActOf) : Option ByteArray := if a.kind < 4 then numPiece a.x a.size else if a.kind < 7 then textPiece a.s a.size else some a.h
def wireOf (ds : List ActOf) : ByteArray := ds.foldr (fun d r => (pieceOf d).getD ByteArray.empty ++ r) ByteArray.empty
def flat (ds : List ActOf) : List Value := ds.flatMap ActOf.cells

theorem wireOf_snoc (ds : List ActOf) (a : ActOf) : wireOf (ds ++ [a]) = wireOf ds ++ (pieceOf a).getD ByteArray.empty := by
  induction ds with
  | nil =>
    show (pieceOf a).getD ByteArray.empty ++ ByteArray.empty = ByteArray.empty ++ (pieceOf a).getD ByteArray.empty
    rw [append_empty, empty_append]
  | cons d ds ih =>
    show (pieceOf d).getD ByteArray.empty ++ wireOf (ds ++ [a]) = ((pieceOf d).getD ByteArray.empty ++ wireOf ds) ++ _
    rw [ih, append_assoc]

theorem flat_snoc (ds : List ActOf) (a : ActOf) : flat (ds ++ [a]) = flat ds ++ a.cells := by simp [flat]

theorem flat_get (ds : List ActOf) (hf : ∀ d ∈ ds, d.fine) (j : Nat) (hj : j < ds.length) (i : Nat) (hi : i < 36) : (flat ds)[j * 36 + i]? = ds[j].cells[i]? := by
  induction ds generalizing j with
  | nil => exact absurd hj (by simp)
  | cons d ds ih =>
    have hd := ActOf.len (hf d (List.mem_cons_self ..))
    show (d.cells ++ flat ds)[j * 36 + i]? = _
    cases j with
    | zero =>
      rw [List.getElem?_append_left (by omega)]
      simp
    | succ j =>
      rw [List.getElem?_append_right (by omega), hd]
      have e : (j + 1) * 36 + i - 36 = j * 36 + i := by omega
      rw [e, ih (fun x hx => hf x (List.mem_cons_of_mem _ hx)) j (by simpa using hj)]
      simp

theorem wireOf_drop (ds : List ActOf) (j : Nat) (hj : j < ds.length) : wireOf (ds.drop j) = (pieceOf ds[j]).getD ByteArray.empty ++ wireOf (ds.drop (j + 1)) := by
  rw [List.drop_eq_getElem_cons hj]
  rfl

/-- A writer of the call's own, and the acts that were done: their row, apart from it by its type. -/
structure Back (w : World) (B g : Nat) (s : ByteArray) (ds : List ActOf) (A : Option Addr) (c : Nat) : Prop where
  size : B ≤ w.heap.size
  ge : B ≤ g
  wr : ∃ r, Wr w 92 5 g s r ∧ ∀ k, r = some k → B ≤ k
  own : w.ownsRow B 32 36 (.slice A ds.length c) ds.length (flat ds)
  fits : s.size ≤ 65536
  ok : ∀ d ∈ ds, d.fine ∧ (pieceOf d).isSome = true

theorem own_type {w : World} {B sz n : Nat} {e : TypeId} {v : Value} {cs : List Value} (h : w.ownsRow B e sz v n cs) {q : Nat} (hq : v.ownBlock = some q) : ∃ cur, w.heap[q]? = some (.cells cur e (0, 0)) := by
  rcases h.2 with ⟨rfl, _⟩ | ⟨g, cap, cur, rfl, _, hg, _⟩
  · simp [Value.ownBlock] at hq
  · simp [Value.ownBlock] at hq
    subst hq
    exact ⟨cur, hg⟩

theorem wr_type {w : World} {t e : TypeId} {g : Nat} {s : ByteArray} {r : Option Nat} (h : Wr w t e g s r) {q : Nat} (hq : r = some q) : ∃ cur, w.heap[q]? = some (.cells cur e (0, 0)) := by
  obtain ⟨A, c, h1, h2, rfl, h3⟩ := h
  exact own_type h2 hq

theorem type_ne {w : World} {q q' : Nat} {c c' : Array Value} {t t' : TypeId} (h : w.heap[q]? = some (.cells c t (0, 0))) (h' : w.heap[q']? = some (.cells c' t' (0, 0))) (ht : t ≠ t') : q ≠ q' := by
  rintro rfl
  rw [h] at h'
  injection h' with h'
  injection h' with _ h'
  exact ht h'

section
variable {w w' : World} {B g : Nat} {s : ByteArray} {ds : List ActOf} {A : Option Addr} {c : Nat}

theorem ownsRow_same {w w' : World} {B sz n : Nat} {e : TypeId} {v : Value} {cs : List Value} (h : w.ownsRow B e sz v n cs) (hk : ∀ q, v.ownBlock = some q → w'.heap[q]? = w.heap[q]?) : w'.ownsRow B e sz v n cs := by
  refine ⟨h.1, ?_⟩
  rcases h.2 with hn | ⟨q, cap, cur, hv, hb, hq, rest⟩
  · exact .inl hn
  · exact .inr ⟨q, cap, cur, hv, hb, (hk q (by rw [hv]; rfl)).trans hq, rest⟩

theorem Back.keep (h : Back w B g s ds A c) (hb : Below w.heap.size w w') : Back w' B g s ds A c := by
  obtain ⟨h1, h2, ⟨r, h3, h4⟩, h5, h6, h7⟩ := h
  exact ⟨Nat.le_trans h1 hb.size, h2, ⟨r, h3.keep hb, h4⟩, ownsRow_same h5 (fun q hq => hb.block q (h5.lt q hq).2), h6, h7⟩

theorem back_step {f : FuncId} {args : Array Value} {v : Value} {s' : ByteArray} (h : Back w B g s ds A c) (hs' : s'.size ≤ 65536)
    (cc : ∀ r, Wr w 92 5 g s r → Calls Try.prog f args w fun e w' => ∃ r', e = .returned v ∧ Wr w' 92 5 g s' r' ∧ Fresh w r r' ∧ Turns w w' g r) :
    Calls Try.prog f args w fun e w' => e = .returned v ∧ Back w' B g s' ds A c ∧ Below B w w' ∧ ∀ (q : Nat) (cur : Array Value), w.heap[q]? = some (Obj.cells cur 32 (0, 0)) → w'.heap[q]? = some (Obj.cells cur 32 (0, 0)) := by
  obtain ⟨h1, h2, ⟨r, h3, h4⟩, h5, h6, h7⟩ := h
  refine (cc r h3).mono fun e w' ⟨r', he, k1, k2, k3⟩ => ?_
  have hkeep : ∀ (q : Nat) (cur : Array Value), w.heap[q]? = some (Obj.cells cur 32 (0, 0)) → w'.heap[q]? = some (Obj.cells cur 32 (0, 0)) := by
    intro q cur ht
    have h3' := h3
    obtain ⟨A', c', hH, _⟩ := h3'
    refine (k3.block q (Array.getElem?_eq_some_iff.1 ht).1 (type_ne ht hH (by decide)) ?_).trans ht
    intro hr
    obtain ⟨cur', ht'⟩ := wr_type h3 hr.symm
    exact type_ne ht ht' (by decide) rfl
  refine ⟨he, ⟨Nat.le_trans h1 k3.size, h2, ⟨r', k1, k2.ge h4 h1⟩, ?_, hs', h7⟩, k3.below h2 h4 h1, hkeep⟩
  refine ownsRow_same h5 fun q hq => ?_
  obtain ⟨cur, ht⟩ := own_type h5 hq
  rw [hkeep q cur ht, ht]

theorem Back.push (h : Back w B g s ds A c) (a : ActOf) (ha : a.fine) (hp : (pieceOf a).isSome = true) {A' : Option Addr} {c' : Nat} (hown : w'.ownsRow B 32 36 (.slice A' (ds.length + 1) c') (ds.length + 1) (flat ds ++ a.cells))
    (hg : w.grownBy w' (Value.slice A ds.length c).ownBlock) : Back w' B g s (ds ++ [a]) A' c' := by
  obtain ⟨h1, h2, ⟨r, h3, h4⟩, h5, h6, h7⟩ := h
  have hl := h3.lt
  refine ⟨Nat.le_trans h1 hg.size, h2, ⟨r, ?_, h4⟩, ?_, h6, ?_⟩
  · refine h3.other (g' := w.heap.size) (r' := (Value.slice A ds.length c).ownBlock) (by omega) ?_ ?_ ?_ (Turns.of_grown hg _)
    · intro e
      obtain ⟨cur, ht⟩ := own_type h5 e.symm
      obtain ⟨A2, c2, hH, _⟩ := h3
      exact type_ne ht hH (by decide) rfl
    · intro e
      have := hl.2 _ e
      omega
    · cases hr : r with
      | none => exact .inl rfl
      | some q =>
        refine .inr ?_
        intro e
        obtain ⟨cur, ht⟩ := own_type h5 e.symm
        obtain ⟨cur', ht'⟩ := wr_type h3 hr
        exact type_ne ht ht' (by decide) rfl
  · rw [flat_snoc, List.length_append]
    exact hown
  · intro d hd
    rcases List.mem_append.1 hd with hd | hd
    · exact h7 d hd
    · rw [List.mem_singleton] at hd
      subst hd
      exact ⟨ha, hp⟩
end

/-- Reading an act's bytes again. -/
theorem piece_num {a : ActOf} (h : a.kind < 4) (hp : (pieceOf a).isSome = true) (r : ByteArray) : readNum ((pieceOf a).getD ByteArray.empty ++ r) a.size = (a.x, 0, r) := by
  unfold pieceOf numPiece at *
  rw [if_pos h] at hp ⊢
  split at hp
  · rename_i hf
    rw [if_pos hf]
    exact readNum_back a.x a.size r hf
  · simp at hp

theorem piece_text {a : ActOf} (h : ¬ a.kind < 4) (h7 : a.kind < 7) (hp : (pieceOf a).isSome = true) (r : ByteArray) : readText ((pieceOf a).getD ByteArray.empty ++ r) a.size = (a.s, 0, r) := by
  unfold pieceOf textPiece at *
  rw [if_neg h, if_pos h7] at hp ⊢
  split at hp
  · rename_i hf
    rw [if_pos hf]
    exact readText_back a.s a.size r hf
  · simp at hp

theorem piece_hash {a : ActOf} (h : ¬ a.kind < 4) (h7 : ¬ a.kind < 7) (hf : a.fine) (r : ByteArray) : readHash ((pieceOf a).getD ByteArray.empty ++ r) = (a.h, 0, r) := by
  unfold pieceOf
  rw [if_neg h, if_neg h7]
  exact readHash_back a.h r hf.1

/-- What an act adds: it is done, or nothing has turned. -/
theorem add_done {s s' : ByteArray} {a : ActOf} {k : Int} (h : addPiece s (pieceOf a) = (s', k)) : (k = 0 ∧ (pieceOf a).isSome = true ∧ s' = s ++ (pieceOf a).getD ByteArray.empty) ∨ (k ≠ 0 ∧ s' = s) := by
  cases hp : pieceOf a with
  | none =>
    rw [hp, addPiece_none] at h
    obtain ⟨rfl, rfl⟩ := Prod.mk.inj h
    exact .inr ⟨by decide, rfl⟩
  | some p =>
    rw [hp] at h
    by_cases hf : s.size + p.size ≤ 65536
    · rw [addPiece_fits hf] at h
      obtain ⟨rfl, rfl⟩ := Prod.mk.inj h
      exact .inl ⟨rfl, rfl, rfl⟩
    · rw [addPiece_long hf] at h
      obtain ⟨rfl, rfl⟩ := Prod.mk.inj h
      exact .inr ⟨by decide, rfl⟩

end Go.Proofs.Ytlbmlnefglgonab
