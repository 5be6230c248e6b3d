/- A range over an iterator that writes cells of its own (caught and laid), while the body keeps growing rows of its own. No function of the program is named here. -/
import Derived.Test.YtpjfhbmegabafaaKKeepX
import Derived.RangeFuncNested
namespace Go.Proofs.Ytpjfhbmegabafaa
open Go.RowKit

/-- The body's own blocks, behind a round: those that were, and new ones. -/
def FreshP (W : World) (o o' : Nat → Prop) : Prop := ∀ k, o' k → o k ∨ W.heap.size ≤ k
/-- An iterator that may write cells that it lays, and those that it has caught (Y); the body's own rows lie in the blocks o. -/
def SeqOwn {α : Type} (F : Fence) (n : Nat) (P : Program) (g : Nat) (lb : Array Value) (encs : α → Array Value) (Y : Nat → Prop) (Kp : (Nat → Prop) → World → World → Prop) (S : List α → Prop) (N : Nat) (w : World) : Prop :=
  ∀ (l : Nat) (J : List α → (Nat → Prop) → World → Prop) (W : World), Below w.heap.size w W →
    (∀ s o A B row, J s o A → A.grownBy B row → (∀ r, row = some r → (W.heap.size ≤ r ∧ ¬ o r) ∨ Y r) → J s o B) →
    (∀ s o A k, J s o A → o k → W.heap.size ≤ k) →
    (∀ pre x o W1, J pre o W1 → pre.length < N → YieldAt F (n - 1) P l (encs x) W1 fun e W' => e = .returned (.bool true) ∧ ∃ o', FreshP W1 o o' ∧ J (pre ++ [x]) o' W' ∧ Kp o W1 W') →
    J [] (fun _ => False) W → CallsIn F n P g (#[.func (.yield l) #[] #[]] ++ lb) W fun e W' => (∃ v, e = .returned v) ∧ ∃ xs o, S xs ∧ J xs o W'

section
variable {F : Fence} {n : Nat} {P : Program}

/-- Whatever is no cells, lies at or beyond B and is not the body's own lies as it lay. -/
def KeepsO (B : Nat) (o : Nat → Prop) (W W' : World) : Prop := W.heap.size ≤ W'.heap.size ∧ ∀ k ob, B ≤ k → ¬ o k → W.heap[k]? = some ob → ob.isCells = false → W'.heap[k]? = some ob
theorem KeepsFrom.o {B : Nat} {W W' : World} (h : KeepsFrom B W W') (o : Nat → Prop) : KeepsO B o W W' := ⟨h.size, fun k ob hB _ hk hc => h.same k ob hB hk hc⟩

/-- A range over such an iterator, outside every other: a body that never leaves. -/
theorem wpIn_range_own {α : Type} {g : Operand} {ps : Array Tmp} {assign body : Code} {Q : Exit → Act → World → Prop} {a : Act} {w : World}
    (hro : F.round = none) (h1 : 1 ≤ n) {gf : Nat} {lb : Array Value} (hg : a.eval g = .func (.func gf) #[] lb) (hFg : F.fn gf) (eg : ∀ args w, (callFunc gf args).run P w = .ok (.enter gf args) w)
    {encs : α → Array Value} {Y : Nat → Prop} {Kp : (Nat → Prop) → World → World → Prop} {S : List α → Prop} {N : Nat} {w0 : World} (hseq : SeqOwn F (n - 1) P gf lb encs Y Kp S N w0) (hb0 : Below w0.heap.size w0 w) (hps : ∀ x, (encs x).size = ps.size) (hY : ∀ r, Y r → r < w.heap.size)
    (hKt : ∀ {o : Nat → Prop} {A B C : World}, Kp o A B → Kp o B C → Kp o A C) (hKb : ∀ (q : Nat → Prop) (W : World) (l : Nat) (o o' : Obj), w.heap.size ≤ l → W.heap[l]? = some o → o.isCells = false → Kp q W (W.putObj l o'))
    (I : List α → (Nat → Prop) → World → Prop) (hI : ∀ s o A B row, I s o A → A.grownBy B row → (∀ r, row = some r → (w.heap.size ≤ r ∧ ¬ o r) ∨ Y r) → I s o B) (hIo : ∀ s o A k, I s o A → o k → w.heap.size + 2 ≤ k) (h0 : I [] (fun _ => False) w)
    (Ax : α → Act → World → Prop) (hAx : ∀ x a' A B row, Ax x a' A → A.grownBy B row → (∀ r, row = some r → w.heap.size ≤ r ∧ ∃ o : Obj, A.heap[r]? = some o ∧ o.isCells = false) → Ax x a' B)
    (hassign : ∀ (l : Nat) (pre : List α) (x : α) (o : Nat → Prop) (W : World) (K : Act → World → Prop), w.heap.size + 2 ≤ W.heap.size → I pre o W → (∀ a' W', KeepsFrom w.heap.size W W' → Kp o W W' → I pre o W' → Ax x a' W' → K a' W') →
      assign.wpIn (F.inRound l) (n - 1 - 1) P (Exit.then K (fun _ _ _ => False)) { tmps := (ps.zip (encs x)).foldl (fun t (p, v) => t.setIfInBounds p v) a.tmps, defers := [] } W)
    (hbody : ∀ (l : Nat) (pre : List α) (x : α) (o : Nat → Prop) (a' : Act) (W : World), w.heap.size ≤ l → w.heap.size + 2 ≤ W.heap.size → (∃ r, W.heap[l]? = some (.loop r)) → I pre o W → Ax x a' W → pre.length < N →
      body.wpIn (F.inRound l) (n - 1 - 1) P (fun e _ W' => e = .normal ∧ KeepsO w.heap.size o W W' ∧ Kp o W W' ∧ ∃ o', FreshP W o o' ∧ I (pre ++ [x]) o' W') a' W)
    (hdone : ∀ (D : Nat) (xs : List α) (o : Nat → Prop) (W : World), w.heap.size ≤ D → S xs → I xs o W → W.heap[D]? = some (.deferred (some [])) → Q .normal { a with defers := { target := .collected D, args := #[] } :: a.defers } W) :
    (Code.rangeFunc g ps assign body).wpIn F n P Q a w := by
  refine wpIn_rangeFunc ?_
  intro fn hfn
  rw [hro]
  -- the loop's record, ready or busy or done, and the place of what is deferred
  obtain ⟨rec, hrec⟩ : ∃ rec : LoopState → Loop, rec = fun st => { state := st, pending := none, fn, tmps := a.tmps, params := ps, assign, body, defers := w.heap.size } := ⟨_, rfl⟩
  obtain ⟨W1, hW1⟩ : ∃ W1, (w.alloc (.deferred (some []))).alloc (.loop (rec .ready)) = W1 := ⟨_, rfl⟩
  have hs1 : W1.heap.size = w.heap.size + 2 := by rw [← hW1]; simp
  have hL1 : W1.heap[w.heap.size + 1]? = some (.loop (rec .ready)) := by
    have h := World.alloc_heap_new (w.alloc (.deferred (some []))) (.loop (rec .ready))
    rw [World.size_alloc] at h
    rw [← hW1]
    exact h
  have hD1 : W1.heap[w.heap.size]? = some (.deferred (some [])) := by
    rw [← hW1]
    exact (Below.heap_alloc _ _ _ (by simp)).trans (World.alloc_heap_new w _)
  have hbw : Below w.heap.size w W1 := by rw [← hW1]; exact ((Below.refl _ w).alloc (Nat.le_refl _) _).alloc (by simp) _
  have hput : ∀ s q W l (o o' : Obj), I s q W → w.heap.size ≤ l → l < w.heap.size + 2 → W.heap[l]? = some o → o.isCells = false → I s q (W.putObj l o') := fun s q W l o o' hs hl hl2 ho hc => hI s q W _ (some l) hs (grownBy_putObj' W l o') (fun r e => by
    cases e
    refine .inl ⟨hl, fun e => ?_⟩
    have := hIo s q W l hs e
    omega)
  have hI1 : I [] (fun _ => False) W1 := hI [] (fun _ => False) w W1 none h0 ⟨hbw.os, hbw.tape, hbw.output, hbw.size, fun k hk _ => hbw.block k hk⟩ (fun r e => by cases e)
  refine ⟨w.heap.size + 1, [{ target := .collected w.heap.size, args := #[] }], W1, { target := .fn (.func gf) lb, args := #[.func (.yield (w.heap.size + 1)) #[] #[]] }, W1, gf,
    #[.func (.yield (w.heap.size + 1)) #[] #[]] ++ lb, W1, ?_, ?_, ?_, ?_, fun _ => h1, ?_⟩
  · rw [← hW1, hrec]
    exact run_enterLoop_outer _ _ _ _ _
  · simp only [resolve, hg]
    simp [go_sem]
  · intro f' hf'
    simp [Target.leads] at hf'
    subst hf'
    exact hFg
  · simp [invoke, go_sem, eg]
  · -- a block below w1's size stays
    have stay : ∀ (k : Nat) (A B : World) (row : Option Nat) (o : Obj) (q : Nat → Prop), w.heap.size ≤ k → k < w.heap.size + 2 → A.heap[k]? = some o → A.grownBy B row → (∀ r, row = some r → (W1.heap.size ≤ r ∧ ¬ q r) ∨ Y r) → B.heap[k]? = some o := by
      intro k A B row o q hk1 hk2 hA hgr hr
      refine (hgr.block k (Array.getElem?_eq_some_iff.1 hA).1 (fun e => ?_)).trans hA
      rcases hr k e.symm with h | h
      · have := h.1
        omega
      · have := hY k h
        omega
    refine (hseq (w.heap.size + 1) (fun pre o W => I pre o W ∧ W.heap[w.heap.size + 1]? = some (.loop (rec .ready)) ∧ W.heap[w.heap.size]? = some (.deferred (some [])) ∧ w.heap.size + 2 ≤ W.heap.size) W1 (hb0.trans (hbw.mono hb0.size))
      (fun s o A B row hs hgr hr => ⟨hI s o A B row hs.1 hgr (fun r e => (hr r e).imp (fun h => ⟨by have := h.1; omega, h.2⟩) id), stay _ A B row _ o (by omega) (by omega) hs.2.1 hgr hr, stay _ A B row _ o (by omega) (by omega) hs.2.2.1 hgr hr, Nat.le_trans hs.2.2.2 hgr.size⟩) (fun s o A k hs e => by have := hIo s o A k hs.1 e; omega) ?_ ⟨hI1, hL1, hD1, Nat.le_of_eq hs1.symm⟩).mono ?_
    · -- a round
      rintro pre x o W ⟨hi, hl, hd, hz⟩ hlen
      have hy := run_yield (P := P) (args := encs x) hl (by rw [hrec]; exact hps x)
      rw [hrec] at hy
      refine ⟨fn, _, assign, body, hy, roundIn_of_wpIn hfn (hassign _ pre x o W _ hz hi ?_)⟩
      clear hy
      intro a' V hkf hkp hiV hax
      have hlV := hkf.same _ _ (Nat.le_succ _) hl rfl
      have hdV := hkf.same _ _ (Nat.le_refl _) hd rfl
      have hltV := (Array.getElem?_eq_some_iff.1 hlV).1
      refine ⟨_, run_beginRound hlV (by rw [hrec]), ?_⟩
      have hl2 : (V.putObj (w.heap.size + 1) (.loop { rec .ready with state := .busy })).heap[w.heap.size + 1]? = some (.loop { rec .ready with state := .busy }) := World.putObj_heap_same hltV
      have hd2 : (V.putObj (w.heap.size + 1) (.loop { rec .ready with state := .busy })).heap[w.heap.size]? = some (.deferred (some [])) := (World.putObj_heap_other (by omega)).trans hdV
      have hpz : ∀ (U : World) (l : Nat) (o : Obj), (U.putObj l o).heap.size = U.heap.size := fun _ _ _ => by simp
      have hzV := hkf.size
      have hp2 : Kp o V (V.putObj (w.heap.size + 1) (.loop { rec .ready with state := .busy })) := hKb _ _ _ _ _ (by omega) hlV rfl
      refine wpIn_mono (hbody _ pre x o a' _ (Nat.le_succ _) (by rw [hpz]; omega) ⟨_, hl2⟩ (hput _ _ _ _ _ _ hiV (Nat.le_succ _) (by omega) hlV rfl) (hAx x a' _ _ (some (w.heap.size + 1)) hax (grownBy_putObj' _ _ _) (fun r e => by cases e; exact ⟨Nat.le_succ _, _, hlV, rfl⟩)) hlen) ?_
      rintro e a3 W3 ⟨rfl, hk3, hp3, o', hf3, hi3⟩
      have hio := fun k (hk : o k) => hIo _ o _ k hiV hk
      have hl3 := hk3.2 _ _ (Nat.le_succ _) (fun h => by have := hio _ h; omega) hl2 rfl
      have hd3 := hk3.2 _ _ (Nat.le_refl _) (fun h => by have := hio _ h; omega) hd2 rfl
      have hlt3 := (Array.getElem?_eq_some_iff.1 hl3).1
      have hz3 := hk3.1
      rw [hpz] at hz3
      have hr := run_endRound (P := P) none hl3
      rw [hrec] at hr
      refine ⟨_, _, hr, rfl, o', ?_, ⟨hput _ _ _ _ _ _ hi3 (Nat.le_succ _) (by omega) hl3 rfl, ?_, (World.putObj_heap_other (by omega)).trans hd3, by rw [hpz]; omega⟩, hKt hkp (hKt (hKt hp2 hp3) (hKb _ _ _ _ _ (by omega) hl3 rfl))⟩
      · intro k hk
        exact (hf3 k hk).imp id (fun h => by rw [hpz] at h; omega)
      · rw [hrec]
        exact World.putObj_heap_same hlt3
    · -- behind the iterator
      rintro e W2 ⟨⟨v, rfl⟩, xs, o, hS, hi, hl, hd, hz⟩
      have hr := run_endLoop (P := P) hl (by rw [hrec]; simp)
      rw [hrec] at hr
      exact ⟨none, _, hr, hdone _ xs o _ (Nat.le_refl _) hS (hput _ _ _ _ _ _ hi (Nat.le_succ _) (by omega) hl rfl) ((World.putObj_heap_other (by omega)).trans hd)⟩
end

end Go.Proofs.Ytpjfhbmegabafaa
