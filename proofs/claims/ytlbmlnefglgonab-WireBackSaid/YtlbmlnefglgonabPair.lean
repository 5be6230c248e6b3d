/- Two things that write bytes, apart from each other: the program's and the reference's. -/
import Derived.Test.YtlbmlnefglgonabRefW
import Derived.Test.YtlbmlnefglgonabWireB
namespace Go.Proofs.Ytlbmlnefglgonab
open Go.RowKit

/-- Two writers of the call's own, in different memory. -/
def Pair (w : World) (B g1 : Nat) (t1 : TypeId) (s1 : ByteArray) (g2 : Nat) (t2 : TypeId) (s2 : ByteArray) : Prop :=
  B ≤ w.heap.size ∧ B ≤ g1 ∧ B ≤ g2 ∧ g1 ≠ g2 ∧ ∃ r1 r2, Wr w t1 5 g1 s1 r1 ∧ Wr w t2 5 g2 s2 r2 ∧ r1 ≠ some g2 ∧ r2 ≠ some g1 ∧ (r1 = none ∨ r1 ≠ r2) ∧ (∀ k, r1 = some k → B ≤ k) ∧ (∀ k, r2 = some k → B ≤ k)

section
variable {w w' : World} {B g1 g2 : Nat} {t1 t2 : TypeId} {s1 s2 : ByteArray}

theorem Pair.swap (h : Pair w B g1 t1 s1 g2 t2 s2) : Pair w B g2 t2 s2 g1 t1 s1 := by
  obtain ⟨h1, h2, h3, h4, r1, r2, a, b, c, d, e, f, g⟩ := h
  refine ⟨h1, h3, h2, h4.symm, r2, r1, b, a, d, c, ?_, g, f⟩
  rcases e with e | e
  · cases r2 with
    | none => exact .inl rfl
    | some k => exact .inr (by rw [e]; exact fun h => by cases h)
  · exact .inr (Ne.symm e)

theorem Pair.keep (h : Pair w B g1 t1 s1 g2 t2 s2) (hb : Below w.heap.size w w') : Pair w' B g1 t1 s1 g2 t2 s2 := by
  obtain ⟨h1, h2, h3, h4, r1, r2, a, b, rest⟩ := h
  exact ⟨Nat.le_trans h1 hb.size, h2, h3, h4, r1, r2, a.keep hb, b.keep hb, rest⟩

theorem pair_step {P : Program} {f : FuncId} {args : Array Value} {v : Value} {s1' : ByteArray} (h : Pair w B g1 t1 s1 g2 t2 s2)
    (c : ∀ r, Wr w t1 5 g1 s1 r → Calls P f args w fun e w' => ∃ r', e = .returned v ∧ Wr w' t1 5 g1 s1' r' ∧ Fresh w r r' ∧ Turns w w' g1 r) :
    Calls P f args w fun e w' => e = .returned v ∧ Pair w' B g1 t1 s1' g2 t2 s2 ∧ Below B w w' := by
  obtain ⟨h1, h2, h3, h4, r1, r2, a, b, c1, d, e, hf, hg⟩ := h
  refine (c r1 a).mono fun e' w' ⟨r', he, k1, k2, k3⟩ => ⟨he, ?_, k3.below h2 hf h1⟩
  have hlb := b.lt
  refine ⟨Nat.le_trans h1 k3.size, h2, h3, h4, r', r2, k1, ?_, k2.ne c1 hlb.1, d, ?_, k2.ge hf h1, hg⟩
  · refine b.other h4.symm (Ne.symm c1) d ?_ k3
    rcases e with e | e
    · cases r2 with
      | none => exact .inl rfl
      | some k => exact .inr (by rw [e]; exact fun h => by cases h)
    · exact .inr (Ne.symm e)
  · rcases k2 with k2 | ⟨q, k2, hq⟩
    · rw [k2]; exact e
    · refine .inr ?_
      rw [k2]
      intro hr
      have := hlb.2 q hr.symm
      omega

theorem pair_all {P : Program} {f : FuncId} {args : Array Value} {v : Value} (h : Pair w B g1 t1 s1 g2 t2 s2) (c : ∀ r, Wr w t1 5 g1 s1 r → Calls P f args w fun e w' => e = .returned v ∧ w = w') :
    Calls P f args w fun e w' => e = .returned v ∧ w = w' := by
  obtain ⟨h1, h2, h3, h4, r1, r2, a, b, rest⟩ := h
  exact c r1 a

/-- Two writers, and a block beside them. -/
def PairQ (w : World) (B g1 : Nat) (t1 : TypeId) (s1 : ByteArray) (g2 : Nat) (t2 : TypeId) (s2 : ByteArray) (q : Nat) (t : TypeId) (cs : List Value) : Prop :=
  B ≤ w.heap.size ∧ B ≤ g1 ∧ B ≤ g2 ∧ g1 ≠ g2 ∧ Holds w q t cs ∧ q ≠ g1 ∧ q ≠ g2 ∧ ∃ r1 r2, Wr w t1 5 g1 s1 r1 ∧ Wr w t2 5 g2 s2 r2 ∧ r1 ≠ some g2 ∧ r2 ≠ some g1 ∧ (r1 = none ∨ r1 ≠ r2) ∧ (∀ k, r1 = some k → B ≤ k) ∧ (∀ k, r2 = some k → B ≤ k) ∧
    r1 ≠ some q ∧ r2 ≠ some q

theorem PairQ.pair {q : Nat} {t : TypeId} {cs : List Value} (h : PairQ w B g1 t1 s1 g2 t2 s2 q t cs) : Pair w B g1 t1 s1 g2 t2 s2 := by
  obtain ⟨h1, h2, h3, h4, hq, hq1, hq2, r1, r2, a, b, c, d, e, f, g, _, _⟩ := h
  exact ⟨h1, h2, h3, h4, r1, r2, a, b, c, d, e, f, g⟩

theorem PairQ.holds {q : Nat} {t : TypeId} {cs : List Value} (h : PairQ w B g1 t1 s1 g2 t2 s2 q t cs) : Holds w q t cs := h.2.2.2.2.1

theorem Pair.with (h : Pair w B g1 t1 s1 g2 t2 s2) (cs : Array Value) (t : TypeId) : PairQ (w.alloc (.cells cs t)) B g1 t1 s1 g2 t2 s2 w.heap.size t cs.toList := by
  obtain ⟨h1, h2, h3, h4, r1, r2, a, b, c, d, e, f, g⟩ := h
  refine ⟨by simp; omega, h2, h3, h4, Holds.new w t cs, Nat.ne_of_gt a.lt.1, Nat.ne_of_gt b.lt.1, r1, r2, a.alloc _, b.alloc _, c, d, e, f, g, ?_, ?_⟩
  · intro h
    have := a.lt.2 _ h
    omega
  · intro h
    have := b.lt.2 _ h
    omega

theorem PairQ.swap {q : Nat} {t : TypeId} {cs : List Value} (h : PairQ w B g1 t1 s1 g2 t2 s2 q t cs) : PairQ w B g2 t2 s2 g1 t1 s1 q t cs := by
  obtain ⟨h1, h2, h3, h4, hq, hq1, hq2, r1, r2, a, b, c, d, e, f, g, k1, k2⟩ := h
  refine ⟨h1, h3, h2, h4.symm, hq, hq2, hq1, r2, r1, b, a, d, c, ?_, g, f, k2, k1⟩
  rcases e with e | e
  · cases r2 with
    | none => exact .inl rfl
    | some k => exact .inr (by rw [e]; exact fun h => by cases h)
  · exact .inr (Ne.symm e)

theorem pairQ_step {P : Program} {f : FuncId} {args : Array Value} {v : Value} {s1' : ByteArray} {q : Nat} {t : TypeId} {cs : List Value} (h : PairQ w B g1 t1 s1 g2 t2 s2 q t cs)
    (c : ∀ r, Wr w t1 5 g1 s1 r → Calls P f args w fun e w' => ∃ r', e = .returned v ∧ Wr w' t1 5 g1 s1' r' ∧ Fresh w r r' ∧ Turns w w' g1 r) :
    Calls P f args w fun e w' => e = .returned v ∧ PairQ w' B g1 t1 s1' g2 t2 s2 q t cs ∧ Below B w w' := by
  obtain ⟨h1, h2, h3, h4, hq, hq1, hq2, r1, r2, a, b, c1, d, e, hf, hg, m1, m2⟩ := h
  refine (c r1 a).mono fun e' w' ⟨r', he, k1, k2, k3⟩ => ⟨he, ?_, k3.below h2 hf h1⟩
  have hlb := b.lt
  refine ⟨Nat.le_trans h1 k3.size, h2, h3, h4, k3.holds hq hq1 (Ne.symm m1), hq1, hq2, r', r2, k1, ?_, k2.ne c1 hlb.1, d, ?_, k2.ge hf h1, hg, k2.ne m1 hq.lt, m2⟩
  · refine b.other h4.symm (Ne.symm c1) d ?_ k3
    rcases e with e | e
    · cases r2 with
      | none => exact .inl rfl
      | some k => exact .inr (by rw [e]; exact fun h => by cases h)
    · exact .inr (Ne.symm e)
  · rcases k2 with k2 | ⟨q, k2, hq⟩
    · rw [k2]; exact e
    · refine .inr ?_
      rw [k2]
      intro hr
      have := hlb.2 q hr.symm
      omega
end

end Go.Proofs.Ytlbmlnefglgonab
