/- Layer 12, the program's side: rows.Unlike of hashes. -/
import Derived.Test.YtpjfhbmegabafaaLFtGb
import Derived.Test.YtpjfhbmegabafaaLFtH
namespace Go.Proofs.Ytpjfhbmegabafaa
open Go.RowKit
attribute [local irreducible] Sha.compress Sha.blocks Sha.sha Sha.pad
attribute [local go_sem] Oper.semAt_some

noncomputable def unlikeH (xs : List (List UInt8)) : List (List UInt8) := xs.foldl addH []
theorem addH_len (xs : List (List UInt8)) (x : List UInt8) : (addH xs x).length ≤ xs.length + 1 := by
  by_cases h : x ∈ xs
  · rw [addH_old h]; omega
  · rw [addH_new h, List.length_append]; simp
theorem foldH_len (xs acc : List (List UInt8)) : (xs.foldl addH acc).length ≤ acc.length + xs.length := by
  induction xs generalizing acc with
  | nil => exact Nat.le_refl _
  | cons x xs ih =>
    have := ih (addH acc x)
    have := addH_len acc x
    simp only [List.foldl_cons, List.length_cons]
    omega
theorem range_getH (xs : List (List UInt8)) : (List.range xs.length).map (fun i => xs.getD i z0) = xs := by
  apply List.ext_getElem
  · simp
  · intro i h1 h2
    simp [List.getD_eq_getElem?_getD, h2]
/-- What Unlike holds in its rounds. -/
structure UhSt (w1 : World) (r : Nat) (acc : List (List UInt8)) (o : Nat → Prop) (W : World) (M : Option Nat) (A : Option Addr) (c : Nat) : Prop where
  row : HhRow W r 0 M A c acc
  low : ∀ k, TOwn M A acc.length c k → w1.heap.size + 2 ≤ k
  own : o = TOwn M A acc.length c
  turn : TurnS (fun k => k = r) w1 W
theorem UhSt.iter {w1 W W' : World} {r c : Nat} {acc : List (List UInt8)} {o : Nat → Prop} {M : Option Nat} {A : Option Addr} {row : Option Nat} (h : UhSt w1 r acc o W M A c) (hr : r < w1.heap.size) (hg : W.grownBy W' row) (hrow : ∀ k, row = some k → w1.heap.size ≤ k ∧ ¬ o k) : UhSt w1 r acc o W' M A c := by
  have hne : ∀ k, TOwn M A acc.length c k → some k ≠ row := fun k hk e => (hrow k e.symm).2 (by rw [h.own]; exact hk)
  refine ⟨⟨h.row.cell.grown hg (fun e => by have := (hrow r e.symm).1; omega), h.row.map.imp id (fun ⟨mb, e, hm⟩ => ⟨mb, e, hm.block (hg.block mb hm.lt (hne mb (.inl e)))⟩), rown_block h.row.row fun k hk => hg.block k (h.row.row.lt k hk).2 (hne k (.inr hk)), h.row.len⟩, h.low, h.own, ?_⟩
  exact ⟨hg.os.trans h.turn.os, hg.tape.trans h.turn.tape, hg.output.trans h.turn.output, Nat.le_trans h.turn.size hg.size, fun k hk hs => (hg.block k (Nat.lt_of_lt_of_le hk h.turn.size) (fun e => by have := (hrow k e.symm).1; omega)).trans (h.turn.block k hk hs)⟩
theorem UhSt.put {w1 W W' : World} {r c c' : Nat} {acc : List (List UInt8)} {x : List UInt8} {o : Nat → Prop} {M M' : Option Nat} {A A' : Option Addr} (h : UhSt w1 r acc o W M A c) (hr : r < w1.heap.size) (hsz : w1.heap.size + 2 ≤ W.heap.size) (hp : HhPut W W' r 0 M A c acc x M' A' c') :
    KeepsO w1.heap.size o W W' ∧ KeepX (fun k => k = r ∨ o k) W W' ∧ ∃ o', FreshP W o o' ∧ UhSt w1 r (addH acc x) o' W' M' A' c' := by
  have hb : ∀ k, k < W.heap.size → k ≠ r → ¬ o k → W'.heap[k]? = W.heap[k]? := fun k hk h1 h2 => hp.turn.block k hk (fun hs => hs.elim h1 (fun h3 => h2 (by rw [h.own]; exact h3)))
  refine ⟨⟨hp.turn.size, fun k ob hB ho hk _ => (hb k (Array.getElem?_eq_some_iff.1 hk).1 (by omega) ho).trans hk⟩, ⟨hp.turn.size, fun k ob hk _ hx => (hb k (Array.getElem?_eq_some_iff.1 hk).1 (fun e => hx (.inl e)) (fun e => hx (.inr e))).trans hk⟩, _, fun k hk => ?_, ⟨hp.row, fun k hk => ?_, rfl, ?_⟩⟩
  · rw [h.own]
    exact hp.fresh k hk
  · rcases hp.fresh k hk with h3 | h3
    · exact h.low k h3
    · omega
  · have hz := h.turn.size
    refine ⟨hp.turn.os.trans h.turn.os, hp.turn.tape.trans h.turn.tape, hp.turn.output.trans h.turn.output, Nat.le_trans hz hp.turn.size, fun k hk hs => (hb k (by omega) hs (fun e => ?_)).trans (h.turn.block k hk hs)⟩
    rw [h.own] at e
    have := h.low k e
    omega

set_option maxRecDepth 100000 in
set_option maxHeartbeats 1000000 in
theorem unlikeH_any (c1 b : Nat) (A : Option Addr) (n c : Nat) (xs : List (List UInt8)) (h32 : ∀ x ∈ xs, x.length = 32) (hlen : xs.length = n) (hA : 0 < n → A = some ⟨b, 0, none⟩) (hn : n ≤ 100000) (w : World) (h1 : Holds w c1 62 [.slice A n c]) (h2 : 0 < n → RowH w b xs) :
    Calls Try.prog 77 #[.func (.func 92) #[] #[.pointer (some ⟨c1, 0, none⟩)]] w fun e w' => ∃ A' m c', e = .returned (.slice A' m c') ∧ w'.ownsRow 0 33 32 (.slice A' m c') m (hashCells (unlikeH xs)) ∧ (∀ k, (Value.slice A' m c').ownBlock = some k → w.heap.size ≤ k) ∧ Below w.heap.size w w' := by
  have hfr : (#[.func (.func 92) #[] #[.pointer (some ⟨c1, 0, none⟩)]] ++ Array.replicate (Try.f77.ntmps - (#[.func (.func 92) #[] #[.pointer (some ⟨c1, 0, none⟩)]] : Array Value).size) undef : Array Value) = #[.func (.func 92) #[] #[.pointer (some ⟨c1, 0, none⟩)], undef, undef, undef, undef, undef, undef, undef, undef, undef, undef, undef] := by kernel_rfl
  obtain ⟨r, hr⟩ : ∃ r, w.heap.size = r := ⟨_, rfl⟩
  obtain ⟨W1, hW1⟩ : ∃ V, w.alloc (.cells #[.map none, .slice none 0 0] 170) = V := ⟨_, rfl⟩
  have hb1 : Below w.heap.size w W1 := by rw [← hW1]; exact (Below.refl _ _).alloc (Nat.le_refl _) _
  have hs1 := hid (show W1.heap.size = r + 1 from by rw [← hW1, World.size_alloc, hr])
  have hH1 : Holds W1 r 170 [.map none, .slice none 0 0] := by rw [← hW1, ← hr]; exact Holds.new w _ #[.map none, .slice none 0 0]
  have h0 := hid (show UhSt W1 r (([] : List Nat).map (fun i => xs.getD i z0) |>.foldl addH []) (fun _ => False) W1 none none 0 from ⟨⟨hH1, .inl ⟨rfl, rfl⟩, World.ownsRow_nil _ _ _ _, fun x hx => by cases hx⟩, fun k hk => hk.elim (fun e => nomatch e) (fun e => nomatch e), funext fun k => propext ⟨False.elim, fun hk => hk.elim (fun e => nomatch e) (fun e => nomatch e)⟩, TurnS.refl _ _⟩)
  have hseq := hid (sValH_all 10 (fun k => k = r) c1 b A n c xs h32 hlen hA hn (fun h e => by have := (h2 h).lt; omega) W1 (h1.below hb1 h1.lt) (fun h => (h2 h).on (hb1.block b (h2 h).lt)))
  have hW1' := hid hW1
  have hb1' := hid hb1
  have hr' := hid hr
  have hn' := hid hn
  have hl' := hid hlen
  have h32' := hid h32
  clear h1 h2 hH1 hb1 hW1 hA hr hn hlen h32
  refine callsIn_wide.1 (callsIn_of_wp_marks (n := 12) Try.func77 rfl trivial ?_ rfl)
  rw [hfr]
  refine wpIn_wide.2 ?_
  clear hfr
  go_wp2_with (first
    | ((with_reducible refine at_slot (some 3) ?_); refine wpList_run rfl (.pointer (some ⟨r, 0, none⟩)) (w.alloc (.cells #[.map none, .slice none 0 0] 170)) (by rw [← hr'.out]; kernel_rfl) ?_; rw [hW1'.out])
    | fail)
  refine (wpIn_wide (n := 12)).1 ?_
  refine wpIn_range_own rfl (by omega) (gf := 92) (lb := #[.pointer (some ⟨c1, 0, none⟩)]) rfl trivial (enters_of Try.func92 (by kernel_rfl) rfl)
    hseq.out (Below.refl _ _) (fun _ => rfl) (fun r h => h.elim) KeepX.trans (fun q W l o o' _ hl ho => KeepX.put W l o o' hl ho)
    (fun pre o W => ∃ M A c, UhSt W1 r ((pre.map (fun i => xs.getD i z0)).foldl addH []) o W M A c)
    (fun s o A B row ⟨M, A', c', h⟩ hg hr => ⟨M, A', c', h.iter (by have := hs1.out; omega) hg (fun k e => (hr k e).elim id False.elim)⟩)
    (fun s o A k ⟨M, A', c', h⟩ hk => h.low k (by rw [← h.own]; exact hk))
    ⟨none, none, 0, h0.out⟩
    (fun x a' W => ∃ q, a' = { tmps := #[.func (.func 92) #[] #[.pointer (some ⟨c1, 0, none⟩)], undef, .slice none 0 0, .pointer (some ⟨r, 0, none⟩), .pointer (some ⟨q, 0, none⟩), .func (.func 92) #[] #[.pointer (some ⟨c1, 0, none⟩)], .agg (byteCells (xs.getD x z0)).toArray, undef, undef, undef, undef, undef], defers := [] } ∧ Holds W q 33 (byteCells (xs.getD x z0)))
    (fun x a' A B row ⟨q, h1, h2⟩ hg hr => ⟨q, h1, holds_kept h2 hg (fun r e => (hr r e).2)⟩) ?assign ?body ?done
  case assign =>
    rintro l pre x o V K hz ⟨M, A', c', hI⟩ hK
    have hx32 : (xs.getD x z0).length = 32 := by
      rw [List.getD_eq_getElem?_getD]
      cases h : xs[x]? with
      | none => rfl
      | some y => exact h32'.out y (List.mem_of_getElem? h)
    obtain ⟨s, hs⟩ : ∃ s, xs.getD x z0 = s := ⟨_, rfl⟩
    rw [hs] at hx32 ⊢
    have hCx := hid (hash_cells s hx32)
    gi_wp2_with (first
      | ((with_reducible refine at_slotIn (some 4) ?_); refine wpListIn_run rfl (fun c e => by cases e) rfl (.pointer (some ⟨V.heap.size, 0, none⟩)) (V.alloc (.cells z32 33)) (by kernel_rfl) ?_)
      | ((with_reducible refine at_slotIn none ?_); refine wpListIn_store_mid rfl 33 (.tmp 4) (.tmp 6) rfl V.heap.size 0 (byteCells s).toArray (by kernel_rfl) (by kernel_rfl) (by exact hCx.out.there V) (by exact hCx.out.size) (by exact hCx.out.one) ?_))
    obtain ⟨W', hW'⟩ : ∃ W', (V.alloc (.cells z32 33)).setCells V.heap.size 0 (byteCells s) = W' := ⟨_, rfl⟩
    obtain ⟨hH', hb'⟩ := hCx.out.new hW'
    rw [hW']
    exact hK _ _ (KeepsFrom.belowF hb') (KeepX.below hb') ⟨M, A', c', hI.iter (by have := hs1.out; omega) (gr_of hb' none) (fun k e => nomatch e)⟩ ⟨V.heap.size, by rw [hs]; kernel_rfl, by rw [hs]; exact hH'⟩
  case body =>
    rintro l pre x o a' W hl hsz ⟨r0, hr0⟩ ⟨M, A', c', hI⟩ ⟨q, rfl, hq⟩ hlt
    obtain ⟨acc, hacc⟩ : ∃ acc, (pre.map (fun i => xs.getD i z0)).foldl addH [] = acc := ⟨_, rfl⟩
    have hss : (xs.getD x z0).length = 32 := by
      rw [List.getD_eq_getElem?_getD]
      cases h : xs[x]? with
      | none => rfl
      | some y => exact h32'.out y (List.mem_of_getElem? h)
    obtain ⟨s, hs⟩ : ∃ s, xs.getD x z0 = s := ⟨_, rfl⟩
    rw [hacc] at hI
    rw [hs] at hss hq
    have hal : acc.length ≤ 100000 := by
      have := foldH_len (pre.map (fun i => xs.getD i z0)) []
      rw [hacc, List.length_map] at this
      have := hn'.out
      have e0 : ([] : List (List UInt8)).length = 0 := rfl
      omega
    have hput := hid (hhPut_any r 0 M A' c' acc s hss hal W hI.row (Nat.zero_le _))
    have hCx := hid (hash_cells s hss)
    have hI' := hid hI
    have hacc' := hid hacc
    have hs' := hid hs
    have hsz' := hid hsz
    have hq' := hid hq
    clear hI hacc hss hal hlt hsz hq
    rw [hs]
    clear hs
    gi_wp2_with (first
      | ((with_reducible refine at_slotIn (some 7) ?_); refine wpListIn_load_mid rfl 33 (.tmp 4) rfl q 0 rfl (byteCells s) _ (by exact h_all hq'.out) Try.underlying33 rfl (by exact hCx.out.size') ?_)
      | ((with_reducible refine at_slotIn (some 8) ?_); refine wpListIn_load_mid rfl 33 (.tmp 4) rfl q 0 rfl (byteCells s) _ (by exact h_all hq'.out) Try.underlying33 rfl (by exact hCx.out.size') ?_)
      | fail)
    refine ⟨trivial, CallsIn.inRound l (callsIn_wide.2 (hput.out.mono ?_))⟩
    rintro e W' ⟨⟨v, rfl⟩, M', A2, c2, hp⟩
    have hfin := hid (hI'.out.put (by have := hs1.out; omega) hsz'.out hp)
    gi_wp2_with fail
    obtain ⟨e1, e2, o', e3, e4⟩ := hfin.out
    refine ⟨e1, e2, o', e3, M', A2, c2, ?_⟩
    have hs2 : xs[x]?.getD z0 = s := by rw [← List.getD_eq_getElem?_getD]; exact hs'.out
    have ha2 : (pre.map fun i => xs[i]?.getD z0).foldl addH [] = acc := by rw [← hacc'.out]; simp only [List.getD_eq_getElem?_getD]
    rw [ha2, hs2]
    exact e4
  case done =>
    rintro D ys o W hD rfl ⟨M, A', c', hI⟩ hK
    rw [← hl'.out, range_getH] at hI
    obtain ⟨acc, hacc⟩ : ∃ acc, xs.foldl addH [] = acc := ⟨_, rfl⟩
    rw [hacc] at hI
    have hI' := hid hI
    have hK' := hid hK
    have hacc' := hid hacc
    have c1 := hI.row.cell.cO 1 _ rfl
    clear hI hK hacc
    go_wp2_with fail
    refine ⟨by simp, .inl ⟨_, _, rfl, run_takeDeferred hK'.out, ?_⟩⟩
    have hsz := hI'.out.turn.size
    have h1 := hs1.out
    have h2 := hr'.out
    refine ⟨.slice A' acc.length c', by simp [results, Try.f77, go_sem], A', acc.length, c', rfl, ?_, fun k hk => ?_, ⟨?_, ?_, ?_, ?_, fun k hk => ?_⟩⟩
    · unfold unlikeH
      rw [hacc'.out]
      exact ownsRow_putObj hI'.out.row.row _ hK'.out rfl
    · have := hI'.out.low k (.inr hk)
      omega
    · exact hI'.out.turn.os.trans hb1'.out.os
    · exact hI'.out.turn.tape.trans hb1'.out.tape
    · exact hI'.out.turn.output.trans hb1'.out.output
    · rw [World.putObj_size]; omega
    · exact (World.putObj_heap_other (by omega)).trans ((hI'.out.turn.block k (by omega) (by omega)).trans (hb1'.out.block k hk))

end Go.Proofs.Ytpjfhbmegabafaa
