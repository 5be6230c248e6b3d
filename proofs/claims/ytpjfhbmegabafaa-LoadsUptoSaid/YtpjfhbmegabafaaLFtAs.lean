/- A range over an iterator that writes cells of its own, while the body keeps growing rows of its own, and may leave the function. No function of the program is named here.
   Layer 12, the program's side: cut, of bytes, whose caller may leave. -/
import Derived.Test.YtpjfhbmegabafaaLRangeOwn
import Derived.RangeFuncBound
import Derived.Test.YtpjfhbmegabafaaLFtA
namespace Go.Proofs.Ytpjfhbmegabafaa
open Go.RowKit

/-- As SeqOwn, for a body that may leave: yield then hands back false, and the iterator stops. -/
def SeqOwnS {α : Type} (F : Fence) (n : Nat) (P : Program) (g : Nat) (lb : Array Value) (encs : α → Array Value) (Y : Nat → Prop) (Kp : (Nat → Prop) → World → World → Prop) (S : List α → Prop) (Pf : List α → α → Prop) (w : World) : Prop :=
  ∀ (l : Nat) (J : List α → (Nat → Prop) → World → Prop) (Jx : World → Prop) (W : World), Below w.heap.size w W →
    (∀ s o A B row, J s o A → A.grownBy B row → (∀ r, row = some r → (W.heap.size ≤ r ∧ ¬ o r) ∨ Y r) → J s o B) →
    (∀ A B row, Jx A → A.grownBy B row → (∀ r, row = some r → W.heap.size ≤ r ∨ Y r) → Jx B) →
    (∀ s o A k, J s o A → o k → W.heap.size ≤ k ∧ k < A.heap.size) →
    (∀ pre x o W1, J pre o W1 → Pf pre x → YieldAt F (n - 1) P l (encs x) W1 fun e W' => (e = .returned (.bool true) ∧ ∃ o', FreshP W1 o o' ∧ J (pre ++ [x]) o' W' ∧ Kp o W1 W' ∧ KeepsO W.heap.size o W1 W') ∨ (e = .returned (.bool false) ∧ Jx W' ∧ KeepsO W.heap.size o W1 W')) →
    J [] (fun _ => False) W → CallsIn F n P g (#[.func (.yield l) #[] #[]] ++ lb) W fun e W' => (∃ v, e = .returned v) ∧ ((∃ xs o, S xs ∧ J xs o W') ∨ Jx W')

theorem roundIn_any {F : Fence} (hd : F.depth = none) {m m' : Nat} {P : Program} {l : Nat} {f : FuncId} {tmps : Array Value} {assign body : Code} {w : World} {R : Ending → World → Prop} (h : RoundIn F m P l f tmps assign body w R) : RoundIn F m' P l f tmps assign body w R :=
  ⟨h.1, fun c cs _ => h.2 c cs (fun d e => by rw [hd] at e; cases e)⟩
theorem yieldAt_any {F : Fence} (hd : F.depth = none) {m m' : Nat} {P : Program} {l : Nat} {args : Array Value} {W : World} {R : Ending → World → Prop} (h : YieldAt F m P l args W R) : YieldAt F m' P l args W R :=
  let ⟨fn, tmps, assign, body, hy, hR⟩ := h
  ⟨fn, tmps, assign, body, hy, roundIn_any hd hR⟩

theorem keepsO_round {B B' l : Nat} {o : Nat → Prop} {W V U : World} {x y : Obj} (hkf : KeepsFrom B W V) (hl : l < B') (hB : B ≤ B') (h3 : KeepsO B o (V.putObj l x) U) : KeepsO B' o W (U.putObj l y) := by
  have hz : ∀ (U : World) (l : Nat) (o : Obj), (U.putObj l o).heap.size = U.heap.size := fun _ _ _ => by simp
  refine ⟨?_, fun k ob hk ho h hc => ?_⟩
  · have h1 := h3.1
    have h2 := hkf.size
    rw [hz] at h1 ⊢
    omega
  · exact (World.putObj_heap_other (by omega)).trans (h3.2 k ob (by omega) ho ((World.putObj_heap_other (by omega)).trans (hkf.same k ob (by omega) h hc)) hc)
section
variable {F : Fence} {n : Nat} {P : Program}

/-- A range over such an iterator, outside every other: a body that may return. -/
theorem wpIn_range_ownS {α : Type} {g : Operand} {ps : Array Tmp} {assign body : Code} {Q : Exit → Act → World → Prop} {a : Act} {w : World}
    (hro : F.round = none) (h1 : 1 ≤ n) {gf : Nat} {lb : Array Value} (hg : a.eval g = .func (.func gf) #[] lb) (hFg : F.fn gf) (eg : ∀ args w, (callFunc gf args).run P w = .ok (.enter gf args) w)
    {encs : α → Array Value} {Y : Nat → Prop} {Kp : (Nat → Prop) → World → World → Prop} {S : List α → Prop} {Pf : List α → α → Prop} {w0 : World} (hseq : SeqOwnS F (n - 1) P gf lb encs Y Kp S Pf w0) (hb0 : Below w0.heap.size w0 w) (hps : ∀ x, (encs x).size = ps.size) (hY : ∀ r, Y r → r < w.heap.size)
    (hKt : ∀ {o : Nat → Prop} {A B C : World}, Kp o A B → Kp o B C → Kp o A C) (hKb : ∀ (q : Nat → Prop) (W : World) (l : Nat) (o o' : Obj), w.heap.size ≤ l → W.heap[l]? = some o → o.isCells = false → Kp q W (W.putObj l o'))
    (I : List α → (Nat → Prop) → World → Prop) (hI : ∀ s o A B row, I s o A → A.grownBy B row → (∀ r, row = some r → (w.heap.size ≤ r ∧ ¬ o r) ∨ Y r) → I s o B) (hIo : ∀ s o A k, I s o A → o k → w.heap.size + 2 ≤ k ∧ k < A.heap.size) (h0 : I [] (fun _ => False) w)
    (Ix : World → Prop) (hIx : ∀ A B row, Ix A → A.grownBy B row → (∀ r, row = some r → w.heap.size ≤ r ∨ Y r) → Ix B)
    (Ax : α → Act → World → Prop) (hAx : ∀ x a' A B row, Ax x a' A → A.grownBy B row → (∀ r, row = some r → w.heap.size ≤ r ∧ ∃ o : Obj, A.heap[r]? = some o ∧ o.isCells = false) → Ax x a' B)
    (hassign : ∀ (l : Nat) (pre : List α) (x : α) (o : Nat → Prop) (W : World) (K : Act → World → Prop), w.heap.size + 2 ≤ W.heap.size → I pre o W → (∀ a' W', KeepsFrom w.heap.size W W' → Kp o W W' → I pre o W' → Ax x a' W' → K a' W') →
      assign.wpIn (F.inRound l) (n - 1 - 1) P (Exit.then K (fun _ _ _ => False)) { tmps := (ps.zip (encs x)).foldl (fun t (p, v) => t.setIfInBounds p v) a.tmps, defers := [] } W)
    (hbody : ∀ (l : Nat) (pre : List α) (x : α) (o : Nat → Prop) (a' : Act) (W : World), w.heap.size ≤ l → w.heap.size + 2 ≤ W.heap.size → (∃ r, W.heap[l]? = some (.loop r)) → I pre o W → Ax x a' W → Pf pre x →
      body.wpIn (F.inRound l) (n - 1 - 1) P (fun e _ W' => KeepsO w.heap.size o W W' ∧ ((e = .normal ∧ Kp o W W' ∧ ∃ o', FreshP W o o' ∧ I (pre ++ [x]) o' W') ∨ (e = .ret ∧ Ix W'))) a' W)
    (hdone : ∀ (D : Nat) (xs : List α) (o : Nat → Prop) (W : World), D = w.heap.size → S xs → I xs o W → W.heap[D]? = some (.deferred (some [])) → Q .normal { a with defers := { target := .collected D, args := #[] } :: a.defers } W)
    (hstop : ∀ (D : Nat) (W : World), D = w.heap.size → Ix W → W.heap[D]? = some (.deferred (some [])) → Code.ret.wpIn F n P Q { a with defers := { target := .collected D, args := #[] } :: a.defers } W) :
    (Code.rangeFunc g ps assign body).wpIn F n P Q a w := by
  refine wpIn_rangeFunc ?_
  intro fn hfn
  rw [hro]
  -- the loop's record, ready or busy or done, and the place of what is deferred
  obtain ⟨rec, hrec⟩ : ∃ rec : LoopState → Option Code → Loop, rec = fun st pe => { state := st, pending := pe, fn, tmps := a.tmps, params := ps, assign, body, defers := w.heap.size } := ⟨_, rfl⟩
  obtain ⟨W1, hW1⟩ : ∃ W1, (w.alloc (.deferred (some []))).alloc (.loop (rec .ready none)) = W1 := ⟨_, rfl⟩
  have hs1 : W1.heap.size = w.heap.size + 2 := by rw [← hW1]; simp
  have hL1 : W1.heap[w.heap.size + 1]? = some (.loop (rec .ready none)) := by
    have h := World.alloc_heap_new (w.alloc (.deferred (some []))) (.loop (rec .ready none))
    rw [World.size_alloc] at h
    rw [← hW1]
    exact h
  have hD1 : W1.heap[w.heap.size]? = some (.deferred (some [])) := by
    rw [← hW1]
    exact (Below.heap_alloc _ _ _ (by simp)).trans (World.alloc_heap_new w _)
  have hbw : Below w.heap.size w W1 := by rw [← hW1]; exact ((Below.refl _ w).alloc (Nat.le_refl _) _).alloc (by simp) _
  have hput : ∀ s q W l (o o' : Obj), I s q W → w.heap.size ≤ l → l < w.heap.size + 2 → W.heap[l]? = some o → o.isCells = false → I s q (W.putObj l o') := fun s q W l o o' hs hl hl2 ho hc => hI s q W _ (some l) hs (grownBy_putObj' W l o') (fun r e => by
    cases e
    refine .inl ⟨hl, fun e => ?_⟩
    have := (hIo s q W l hs e).1
    omega)
  have hputx : ∀ W l (o' : Obj), Ix W → w.heap.size ≤ l → Ix (W.putObj l o') := fun W l o' hs hl => hIx W _ (some l) hs (grownBy_putObj' W l o') (fun r e => by cases e; exact .inl hl)
  have hI1 : I [] (fun _ => False) W1 := hI [] (fun _ => False) w W1 none h0 ⟨hbw.os, hbw.tape, hbw.output, hbw.size, fun k hk _ => hbw.block k hk⟩ (fun r e => by cases e)
  refine ⟨w.heap.size + 1, [{ target := .collected w.heap.size, args := #[] }], W1, { target := .fn (.func gf) lb, args := #[.func (.yield (w.heap.size + 1)) #[] #[]] }, W1, gf,
    #[.func (.yield (w.heap.size + 1)) #[] #[]] ++ lb, W1, ?_, ?_, ?_, ?_, fun _ => h1, ?_⟩
  · rw [← hW1, hrec]
    exact run_enterLoop_outer _ _ _ _ _
  · simp only [resolve, hg]
    simp [go_sem]
  · intro f' hf'
    simp [Target.leads] at hf'
    subst hf'
    exact hFg
  · simp [invoke, go_sem, eg]
  · -- a block below w1's size stays
    have stay : ∀ (k : Nat) (A B : World) (row : Option Nat) (o : Obj), w.heap.size ≤ k → k < w.heap.size + 2 → A.heap[k]? = some o → A.grownBy B row → (∀ r, row = some r → W1.heap.size ≤ r ∨ Y r) → B.heap[k]? = some o := by
      intro k A B row o hk1 hk2 hA hgr hr
      refine (hgr.block k (Array.getElem?_eq_some_iff.1 hA).1 (fun e => ?_)).trans hA
      rcases hr k e.symm with h | h
      · omega
      · have := hY k h
        omega
    refine (hseq (w.heap.size + 1) (fun pre o W => I pre o W ∧ W.heap[w.heap.size + 1]? = some (.loop (rec .ready none)) ∧ W.heap[w.heap.size]? = some (.deferred (some [])) ∧ w.heap.size + 2 ≤ W.heap.size)
      (fun W => Ix W ∧ W.heap[w.heap.size + 1]? = some (.loop (rec .done (some .ret))) ∧ W.heap[w.heap.size]? = some (.deferred (some []))) W1 (hb0.trans (hbw.mono hb0.size))
      (fun s o A B row hs hgr hr => ⟨hI s o A B row hs.1 hgr (fun r e => (hr r e).imp (fun h => ⟨by have := h.1; omega, h.2⟩) id), stay _ A B row _ (by omega) (by omega) hs.2.1 hgr (fun r e => (hr r e).imp (·.1) id), stay _ A B row _ (by omega) (by omega) hs.2.2.1 hgr (fun r e => (hr r e).imp (·.1) id), Nat.le_trans hs.2.2.2 hgr.size⟩)
      (fun A B row hs hgr hr => ⟨hIx A B row hs.1 hgr (fun r e => (hr r e).imp (fun h => by omega) id), stay _ A B row _ (by omega) (by omega) hs.2.1 hgr hr, stay _ A B row _ (by omega) (by omega) hs.2.2 hgr hr⟩)
      (fun s o A k hs e => by have := hIo s o A k hs.1 e; rw [hs1]; exact this) ?_ ⟨hI1, hL1, hD1, Nat.le_of_eq hs1.symm⟩).mono ?_
    · -- a round
      rintro pre x o W ⟨hi, hl, hd, hz⟩ hlen
      have hy := run_yield (P := P) (args := encs x) hl (by rw [hrec]; exact hps x)
      rw [hrec] at hy
      refine ⟨fn, _, assign, body, hy, roundIn_of_wpIn hfn (hassign _ pre x o W _ hz hi ?_)⟩
      clear hy
      intro a' V hkf hkp hiV hax
      have hlV := hkf.same _ _ (Nat.le_succ _) hl rfl
      have hdV := hkf.same _ _ (Nat.le_refl _) hd rfl
      have hltV := (Array.getElem?_eq_some_iff.1 hlV).1
      refine ⟨_, run_beginRound hlV (by rw [hrec]), ?_⟩
      have hl2 : (V.putObj (w.heap.size + 1) (.loop { rec .ready none with state := .busy })).heap[w.heap.size + 1]? = some (.loop { rec .ready none with state := .busy }) := World.putObj_heap_same hltV
      have hd2 : (V.putObj (w.heap.size + 1) (.loop { rec .ready none with state := .busy })).heap[w.heap.size]? = some (.deferred (some [])) := (World.putObj_heap_other (by omega)).trans hdV
      have hpz : ∀ (U : World) (l : Nat) (o : Obj), (U.putObj l o).heap.size = U.heap.size := fun _ _ _ => by simp
      have hzV := hkf.size
      have hp2 : Kp o V (V.putObj (w.heap.size + 1) (.loop { rec .ready none with state := .busy })) := hKb _ _ _ _ _ (by omega) hlV rfl
      refine wpIn_mono (hbody _ pre x o a' _ (Nat.le_succ _) (by rw [hpz]; omega) ⟨_, hl2⟩ (hput _ _ _ _ _ _ hiV (Nat.le_succ _) (by omega) hlV rfl) (hAx x a' _ _ (some (w.heap.size + 1)) hax (grownBy_putObj' _ _ _) (fun r e => by cases e; exact ⟨Nat.le_succ _, _, hlV, rfl⟩)) hlen) ?_
      have hio := fun k (hk : o k) => (hIo _ o _ k hiV hk).1
      rintro e a3 W3 ⟨hk3, ⟨rfl, hp3, o', hf3, hi3⟩ | ⟨rfl, hi3⟩⟩
      · have hl3 := hk3.2 _ _ (Nat.le_succ _) (fun h => by have := hio _ h; omega) hl2 rfl
        have hd3 := hk3.2 _ _ (Nat.le_refl _) (fun h => by have := hio _ h; omega) hd2 rfl
        have hlt3 := (Array.getElem?_eq_some_iff.1 hl3).1
        have hz3 := hk3.1
        rw [hpz] at hz3
        have hr := run_endRound (P := P) none hl3
        rw [hrec] at hr
        refine ⟨_, _, hr, .inl ⟨rfl, o', ?_, ⟨hput _ _ _ _ _ _ hi3 (Nat.le_succ _) (by omega) hl3 rfl, ?_, (World.putObj_heap_other (by omega)).trans hd3, by rw [hpz]; omega⟩, hKt hkp (hKt (hKt hp2 hp3) (hKb _ _ _ _ _ (by omega) hl3 rfl)), keepsO_round hkf (by omega) (by omega) hk3⟩⟩
        · intro k hk
          exact (hf3 k hk).imp id (fun h => by rw [hpz] at h; omega)
        · rw [hrec]
          exact World.putObj_heap_same hlt3
      · have hl3 := hk3.2 _ _ (Nat.le_succ _) (fun h => by have := hio _ h; omega) hl2 rfl
        have hd3 := hk3.2 _ _ (Nat.le_refl _) (fun h => by have := hio _ h; omega) hd2 rfl
        have hlt3 := (Array.getElem?_eq_some_iff.1 hl3).1
        have hr := run_endRound (P := P) (some .ret) hl3
        rw [hrec] at hr
        refine ⟨_, _, hr, .inr ⟨rfl, ⟨hputx _ _ _ hi3 (Nat.le_succ _), ?_, (World.putObj_heap_other (by omega)).trans hd3⟩, keepsO_round hkf (by omega) (by omega) hk3⟩⟩
        rw [hrec]
        exact World.putObj_heap_same hlt3
    · -- behind the iterator
      rintro e W2 ⟨⟨v, rfl⟩, (⟨xs, o, hS, hi, hl, hd, hz⟩ | ⟨hi, hl, hd⟩)⟩
      · have hr := run_endLoop (P := P) hl (by rw [hrec]; simp)
        rw [hrec] at hr
        exact ⟨none, _, hr, hdone _ xs o _ rfl hS (hput _ _ _ _ _ _ hi (Nat.le_succ _) (by omega) hl rfl) ((World.putObj_heap_other (by omega)).trans hd)⟩
      · have hr := run_endLoop (P := P) hl (by rw [hrec]; simp)
        rw [hrec] at hr
        exact ⟨some .ret, _, hr, hstop _ _ rfl (hputx _ _ _ hi (Nat.le_succ _)) ((World.putObj_heap_other (by omega)).trans hd)⟩
end

end Go.Proofs.Ytpjfhbmegabafaa
namespace Go.Proofs.Ytpjfhbmegabafaa
open Go.RowKit
attribute [local irreducible] Sha.compress Sha.blocks Sha.sha Sha.pad

set_option maxRecDepth 100000 in
set_option maxHeartbeats 1000000 in
theorem cutB_allS (m : Nat) (X : Nat → Prop) (c1 c2 : Nat) (A : Option Addr) (p : Addr) (len cap n : Nat) (hA : 0 < len → A = some p) (hn1 : 1 ≤ n) (hn2 : n ≤ 100000) (hl : len ≤ 100000000) (hlc : len ≤ cap) (hcc : cap ≤ 9223372036854775807) (x1 : ¬ X c1) (x2 : ¬ X c2) (w : World)
    (h1 : Holds w c1 51 [.slice A len cap]) (h2 : Holds w c2 3 [.int .i64 (n : Int)]) :
    SeqOwnS Fence.wide (m + 1) Try.prog 65 #[.pointer (some ⟨c1, 0, none⟩), .pointer (some ⟨c2, 0, none⟩)] (fun i : Nat => #[.slice (some (p.add (i * n * 1))) (min n (len - i * n)) (cap - i * n)]) (fun k => k = c1) (fun o => KeepX (fun k => X k ∨ o k)) (fun l => l = List.range (cutN n len)) (fun pre x => pre = List.range x ∧ x < cutN n len) w := fun l J Jx W hW hJ hJx hJo hY hj0 => by
  have hne := hid (show c1 ≠ c2 from holds_apart h1 h2 (by decide))
  have hC0 := hid (show CutAt W c1 c2 51 A p len cap n 1 0 A len cap from ⟨h1.below hW h1.lt, h2.below hW h2.lt, by omega, fun h => ⟨by rw [hA (by omega)]; congr 1; unfold Addr.add; split <;> simp_all, by omega⟩⟩)
  have hlt := hid (show c1 < W.heap.size ∧ c2 < W.heap.size from ⟨(h1.below hW h1.lt).lt, (h2.below hW h2.lt).lt⟩)
  have hYy := hid hY
  have hJj := hid hJ
  have hJo' := hid hJo
  have hj0' := hid hj0
  have hn1' := hid hn1
  clear h1 h2 hA hY hJ hJo hj0 hW hJx
  refine callsIn_of_wp Try.func65 rfl trivial ?_ rfl
  simp only [Try.ntmps65, List.size_toArray, List.length_cons, List.length_nil, Nat.reduceAdd, Nat.reduceSub, Array.replicate_succ, Array.replicate_zero, List.push_toArray, List.append_toArray, List.nil_append, List.cons_append]
  gi_wp2_with fail
  gi_loopw [] (fun wr => ∃ (i : Nat) (o : Nat → Prop) (A' : Option Addr) (l' c' : Nat), CutAt wr c1 c2 51 A p len cap n 1 i A' l' c' ∧ J (List.range i) o wr ∧ i ≤ cutN n len ∧ W.heap.size ≤ wr.heap.size) (fun wr => cutL c1 wr)
  case atStart => exact ⟨0, _, A, len, cap, hC0.out, hj0'.out, Nat.zero_le _, Nat.le_refl _⟩
  case round =>
    obtain ⟨i, o, A', l', c', hC, hj, hi, hsz⟩ := hrel
    obtain ⟨Wa, rfl⟩ : ∃ V, V = wr := ⟨_, rfl⟩
    have hCa := hid hC
    have hja := hid hj
    have hza := hid hsz
    have cc1 := hC.ls.cO 0 _ rfl
    have cc2 := hC.num.cO 0 _ rfl
    have hl' := hid hC.ll
    have hms := hid (cutL_is hC.ls)
    clear hC hj hsz hC0 hj0'
    by_cases hil : i * n < len
    · obtain ⟨q, hq⟩ : ∃ q, i * n * 1 = q := ⟨_, rfl⟩
      obtain ⟨hA', rfl⟩ := hCa.out.at_ hil
      rw [hq] at hA'
      obtain rfl := hA'
      have hq' := hid hq
      have hpos : (0 : Int) < (l' : Int) := by have := hl'.out; omega
      have hic : i < cutN n len := (cutN_lt hn1).2 hil
      obtain ⟨sz, hs⟩ : ∃ s, min n l' = s := ⟨_, rfl⟩
      have hs1 : sz ≤ l' ∧ sz ≤ cap - i * n ∧ 1 ≤ sz ∧ l' ≤ cap - i * n := by have := hl'.out; omega
      have hsi : min (n : Int) (l' : Int) = (sz : Int) := by omega
      have hsw := IntWalk.i64_in (sz : Int) (by omega)
      obtain ⟨fn1, tmps1, assign1, body1, hy1, hR1⟩ : YieldAt Fence.wide m Try.prog l #[.slice (some (p.add q)) sz (cap - i * n)] Wa (fun e W' => (e = .returned (.bool true) ∧ ∃ o', FreshP Wa o o' ∧ J (List.range i ++ [i]) o' W' ∧ KeepX (fun k => X k ∨ o k) Wa W' ∧ KeepsO W.heap.size o Wa W') ∨ (e = .returned (.bool false) ∧ Jx W' ∧ KeepsO W.heap.size o Wa W')) := by
        have := hYy.out (List.range i) i o Wa hja.out ⟨rfl, hic⟩
        rw [← hl'.out, hs, hq] at this
        exact this
      have b1 : (sz : Int) ≤ ((cap - i * n : Nat) : Int) := by omega
      have b2 : (sz : Int) ≤ (l' : Int) := by omega
      have b3 : (0 : Int) ≤ (sz : Int) := by omega
      have hne1 := hid (show i * n + sz = (i + 1) * n ∨ len ≤ (i + 1) * n from by
        rw [Nat.add_mul, Nat.one_mul]
        have := hl'.out
        omega)
      have hls := hid (show l' - sz = len - (i + 1) * n from by
        rw [Nat.add_mul, Nat.one_mul]
        have := hl'.out
        omega)
      clear hq
      gi_wp2_with fail
      refine hR1.mono ?_
      rintro e Wf (⟨rfl, o2, hF5, hJ5, hK5, -⟩ | ⟨rfl, hx5, -⟩)
      · skip
        have hoc : ∀ k, (X k ∨ o k) → k ≠ c1 ∧ k ≠ c2 := fun k hk => by
          rcases hk with h | h
          · exact ⟨fun e => x1 (e ▸ h), fun e => x2 (e ▸ h)⟩
          · have h1 := (hJo'.out _ o Wa k hja.out h).1
            have h2 := hlt.out
            omega
        have hCf := hid (hCa.out.keep hK5 (fun h => (hoc c1 h).1 rfl) (fun h => (hoc c2 h).2 rfl))
        have hJf := hid hJ5
        have hzf := hid (Nat.le_trans hza.out hK5.1)
        clear hK5 hJ5 hF5 hy1 hR1 hCa hja hza cc1 cc2
        have cc1 := hCf.out.ls.cO 0 _ rfl
        have f1 := hCf.out.ls.frozen 0
        obtain ⟨Wg, hWg⟩ : ∃ V, Wf.setCell ⟨c1, 0, none⟩ (.slice (if cap - i * n = sz then some (p.add q) else some ((p.add q).add sz)) (l' - sz) (cap - i * n - sz)) = V := ⟨_, rfl⟩
        have hCg := hid (show CutAt Wg c1 c2 51 A p len cap n 1 (i + 1) (if cap - i * n = sz then some (p.add q) else some ((p.add q).add sz)) (l' - sz) (cap - i * n - sz) from ⟨slice_put hCf.out.ls hWg, by rw [← hWg]; exact hCf.out.num.far ⟨c1, 0, none⟩ (Ne.symm hne.out) _, hls.out, fun hlt3 => by
          have e1 : (i + 1) * n = i * n + n := by rw [Nat.add_mul, Nat.one_mul]
          have e2 := hl'.out
          have e3 : sz = n := by omega
          rw [if_neg (by omega), add_add, e3, e1, ← hq'.out, Nat.add_mul]
          exact ⟨by first | rfl | (rw [Nat.mul_one, Nat.mul_one]), by omega⟩⟩)
        have hJg := hid (hJj.out (List.range i ++ [i]) o2 Wf Wg (some c1) hJf.out (by rw [← hWg]; exact ⟨rfl, rfl, rfl, by simp [World.setCell], fun k _ hk => heap_setCell_other _ _ _ _ (fun e => hk (by rw [e]))⟩) (fun r e => .inr (Option.some.inj e).symm))
        have hzg := hid (show W.heap.size ≤ Wg.heap.size from by rw [← hWg, World.size_setCell]; exact hzf.out)
        have hmg := hid (cutL_is hCg.out.ls)
        have hWg' := hid hWg
        clear hWg
        gi_wp2_with fail
        go_roundw
        case rel => exact ⟨i + 1, o2, _, _, _, by rw [hWg'.out]; exact hCg.out, by rw [hWg'.out, List.range_succ]; exact hJg.out, hic, by rw [hWg'.out]; exact hzg.out⟩
        case measure => rw [hWg'.out, hmg.out, hms.out]; omega
      · gi_wp2
        refine bodyPost_ret (results_none rfl _ _ _) rfl ?_
        exact ⟨⟨_, rfl⟩, .inr hx5⟩
    · have hpos : ¬ (0 : Int) < (l' : Int) := by have := hl'.out; omega
      have hic := hid (show i = cutN n len from by
        have := mt (cutN_lt (len := len) (i := i) hn1).1 hil
        omega)
      gi_wp2_with fail
      go_end0
      exact ⟨⟨_, rfl⟩, .inl ⟨o, by rw [← hic.out]; exact hja.out⟩⟩


end Go.Proofs.Ytpjfhbmegabafaa
