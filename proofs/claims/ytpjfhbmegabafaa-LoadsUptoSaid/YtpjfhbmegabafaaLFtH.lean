/- Layer 12, the program's side: the texts of a list; each once.
   Layer 12, the program's side: rows.Unlike of texts. -/
import Derived.Test.YtpjfhbmegabafaaLFtF
import Derived.Test.YtpjfhbmegabafaaLRangeOwn
import Derived.Laws.EntriesVeiled
namespace Go.Proofs.Ytpjfhbmegabafaa
open Go.RowKit
attribute [local irreducible] Sha.compress Sha.blocks Sha.sha Sha.pad

/-- On block b stand texts. -/
def TxtsAt (w : World) (b : Nat) (xs : List ByteArray) : Prop := ∃ (cs : Array Value) (t : TypeId) (f : Nat × Nat), w.heap[b]? = some (.cells cs t f) ∧ ∀ (i : Nat) (x : ByteArray), xs[i]? = some x → cs[i]? = some (.string x)
theorem TxtsAt.on {w w' : World} {b : Nat} {xs : List ByteArray} (h : TxtsAt w b xs) (e : w'.heap[b]? = w.heap[b]?) : TxtsAt w' b xs :=
  let ⟨cs, t, f, h1, h2⟩ := h
  ⟨cs, t, f, e.trans h1, h2⟩
theorem TxtsAt.lt {w : World} {b : Nat} {xs : List ByteArray} (h : TxtsAt w b xs) : b < w.heap.size :=
  let ⟨_, _, _, h1, _⟩ := h
  (Array.getElem?_eq_some_iff.1 h1).1
theorem TxtsAt.keep {w w' : World} {b : Nat} {xs : List ByteArray} {X : Nat → Prop} (h : TxtsAt w b xs) (hk : KeepX X w w') (hx : ¬ X b) : TxtsAt w' b xs :=
  let ⟨cs, t, f, h1, h2⟩ := h
  ⟨cs, t, f, hk.block h1 hx, h2⟩
theorem TxtsAt.cell {w : World} {b i : Nat} {xs : List ByteArray} {x : ByteArray} (h : TxtsAt w b xs) (hx : xs[i]? = some x) : w.cell? ⟨b, i, none⟩ = some (.string x) := by
  obtain ⟨cs, t, f, h1, h2⟩ := h
  rw [cell_of_row w b i cs t f h1]
  exact h2 i x hx
theorem own_txts {w : World} {B n c : Nat} {A : Option Addr} {xs : List ByteArray} (h : w.ownsRow B 9 1 (.slice A n c) n (strs xs)) : ∃ b, (0 < n → A = some ⟨b, 0, none⟩) ∧ (0 < n → TxtsAt w b xs) ∧ (0 < n → (Value.slice A n c).ownBlock = some b) ∧ (0 < n → B ≤ b ∧ b < w.heap.size) ∧ xs.length = n := by
  have hl : xs.length = n := by have := h.1; simpa [strs] using this
  rcases h.2 with ⟨hn, h0⟩ | ⟨q, cap, cur, hv, hb, hq, hnc, hcm, hcs, htake⟩
  · exact ⟨0, fun h => by omega, fun h => by omega, fun h => by omega, fun h => by omega, hl⟩
  · injection hv with e1 e2 e3
    subst e1 e3
    refine ⟨q, fun _ => rfl, fun _ => ⟨cur, _, _, hq, fun i x hx => ?_⟩, fun _ => rfl, fun _ => ⟨hb, (Array.getElem?_eq_some_iff.1 hq).1⟩, hl⟩
    have h3 : (strs xs)[i]? = some (.string x) := by unfold strs; rw [List.getElem?_map, hx]; rfl
    rw [← htake, List.getElem?_take] at h3
    split at h3
    · simpa using h3
    · cases h3

set_option maxRecDepth 100000 in
theorem sValS_any (A : Option Addr) (n c : Nat) (w : World) : Calls Try.prog 45 #[.slice A n c] w fun e w' => e = .returned (.func (.func 72) #[] #[.pointer (some ⟨w.heap.size, 0, none⟩)]) ∧ w' = w.alloc (.cells #[.slice A n c] 50) := by
  go_enter Try.func45, Try.ntmps45
  go_wp2_with (first
    | ((with_reducible refine at_slot (some 1) ?_); refine wpList_run rfl (.pointer (some ⟨w.heap.size, 0, none⟩)) (w.alloc (.cells #[.slice A n c] 50)) (by kernel_rfl) ?_)
    | fail)
  go_ret
  exact ⟨rfl, rfl⟩

set_option maxRecDepth 100000 in
set_option maxHeartbeats 1000000 in
theorem sValS_all (m : Nat) (X : Nat → Prop) (c1 b : Nat) (A : Option Addr) (n c : Nat) (xs : List ByteArray) (hlen : xs.length = n) (hA : 0 < n → A = some ⟨b, 0, none⟩) (hn : n ≤ 100000) (x2 : 0 < n → ¬ X b) (w : World)
    (h1 : Holds w c1 50 [.slice A n c]) (h2 : 0 < n → TxtsAt w b xs) :
    SeqOwn Fence.wide (m + 1) Try.prog 72 #[.pointer (some ⟨c1, 0, none⟩)] (fun i : Nat => #[.string (xs.getD i ⟨#[]⟩)]) (fun _ => False) (fun o => KeepX (fun k => X k ∨ o k)) (fun l => l = List.range n) n w := fun l J W hW hJ hJo hY hj0 => by
  have hA' := hid hA
  have hn' := hid hn
  have hl' := hid hlen
  have h2W := hid (fun h => (h2 h).on (hW.block b (h2 h).lt))
  have hbW := hid (fun h => Nat.lt_of_lt_of_le (h2 h).lt hW.size)
  have x2' := hid x2
  have hYy := hid hY
  have hJj := hid hJ
  have hJo' := hid hJo
  have hj0' := hid hj0
  have c1W := (h1.below hW h1.lt).cO 0 _ rfl
  clear hA h2 hY hJ hJo hj0 hW h1 x2 hn hlen
  refine callsIn_of_wp Try.func72 rfl trivial ?_ rfl
  simp only [Try.ntmps72, List.size_toArray, List.length_cons, List.length_nil, Nat.reduceAdd, Nat.reduceSub, Array.replicate_succ, Array.replicate_zero, List.push_toArray, List.append_toArray, List.nil_append, List.cons_append]
  gi_wp2_with fail
  gi_loopw [7] (fun i wr => ∃ (k : Nat) (o : Nat → Prop), k ≤ n ∧ i = .int .i64 (k : Int) ∧ J (List.range k) o wr ∧ (0 < n → TxtsAt wr b xs) ∧ W.heap.size ≤ wr.heap.size) (fun i _ => n - (intOf i).toNat)
  case atStart => exact ⟨0, _, Nat.zero_le _, rfl, hj0'.out, h2W.out, Nat.le_refl _⟩
  case round =>
    obtain ⟨k, o, hkn, rfl, hj, ht, hz⟩ := hrel
    have hj' := hid hj
    have ht' := hid ht
    have hz' := hid hz
    clear hj ht hz
    by_cases hlt : k < n
    · have hki : (k : Int) < (n : Int) := by omega
      obtain rfl := hA'.out (by omega)
      have hxk := List.getElem?_eq_getElem (l := xs) (i := k) (by have := hl'.out; omega)
      obtain ⟨x, hx⟩ : ∃ x, xs[k]'(by have := hl'.out; omega) = x := ⟨_, rfl⟩
      rw [hx] at hxk
      have hgd : xs.getD k ⟨#[]⟩ = x := by rw [List.getD_eq_getElem?_getD, hxk]; rfl
      have hcell := (ht'.out (by omega)).cell hxk
      obtain ⟨Wa, rfl⟩ : ∃ V, V = wr := ⟨_, rfl⟩
      obtain ⟨fn1, tmps1, assign1, body1, hy1, hR1⟩ : YieldAt Fence.wide m Try.prog l #[.string x] Wa (fun e W' => e = .returned (.bool true) ∧ ∃ o', FreshP Wa o o' ∧ J (List.range k ++ [k]) o' W' ∧ KeepX (fun k => X k ∨ o k) Wa W') := by
        have := hYy.out (List.range k) k o Wa hj'.out (by rw [List.length_range]; exact hlt)
        rw [hgd] at this
        exact this
      have u2 := IntWalk.i64_in ((k : Int) + 1) (by have := hn'.out; omega)
      clear hxk hx hgd
      gi_wp2_with fail
      refine hR1.mono ?_
      rintro e Wf ⟨rfl, o2, hF5, hJ5, hK5⟩
      have hTf := hid (fun h => (ht'.out h).keep hK5 (fun hx => hx.elim (x2'.out h) (fun ho => by have := hJo'.out _ o Wa b hj'.out ho; have := hbW.out h; omega)))
      have hJf := hid hJ5
      have hzf := hid (Nat.le_trans hz'.out hK5.1)
      clear hK5 hJ5 hF5 hy1 hR1 hcell
      gi_wp2_with fail
      go_roundw
      case rel => exact ⟨k + 1, o2, hlt, rfl, by rw [List.range_succ]; exact hJf.out, hTf.out, hzf.out⟩
      case measure => simp only [intOf]; omega
    · have hki : ¬ (k : Int) < (n : Int) := by omega
      obtain rfl : k = n := by omega
      gi_wp2_with fail
      go_end0
      exact ⟨⟨_, rfl⟩, o, hj'.out⟩

end Go.Proofs.Ytpjfhbmegabafaa
namespace Go.Proofs.Ytpjfhbmegabafaa
open Go.RowKit
attribute [local irreducible] Sha.compress Sha.blocks Sha.sha Sha.pad
attribute [local go_sem] Oper.semAt_some

noncomputable def unlikeT (xs : List ByteArray) : List ByteArray := xs.foldl addT []
theorem addT_len (xs : List ByteArray) (x : ByteArray) : (addT xs x).length ≤ xs.length + 1 := by
  by_cases h : x ∈ xs
  · rw [addT_old h]; omega
  · rw [addT_new h, List.length_append]; simp
theorem foldT_len (xs acc : List ByteArray) : (xs.foldl addT acc).length ≤ acc.length + xs.length := by
  induction xs generalizing acc with
  | nil => exact Nat.le_refl _
  | cons x xs ih =>
    have := ih (addT acc x)
    have := addT_len acc x
    simp only [List.foldl_cons, List.length_cons]
    omega
theorem range_getD (xs : List ByteArray) : (List.range xs.length).map (fun i => xs.getD i ⟨#[]⟩) = xs := by
  apply List.ext_getElem
  · simp
  · intro i h1 h2
    simp [List.getD_eq_getElem?_getD, h2]
/-- What Unlike holds in its rounds. -/
structure UnSt (w1 : World) (r : Nat) (acc : List ByteArray) (o : Nat → Prop) (W : World) (M : Option Nat) (A : Option Addr) (c : Nat) : Prop where
  row : TRow W r 0 M A c acc
  low : ∀ k, TOwn M A acc.length c k → w1.heap.size + 2 ≤ k
  own : o = TOwn M A acc.length c
  turn : TurnS (fun k => k = r) w1 W
theorem UnSt.iter {w1 W W' : World} {r c : Nat} {acc : List ByteArray} {o : Nat → Prop} {M : Option Nat} {A : Option Addr} {row : Option Nat} (h : UnSt w1 r acc o W M A c) (hr : r < w1.heap.size) (hg : W.grownBy W' row) (hrow : ∀ k, row = some k → w1.heap.size ≤ k ∧ ¬ o k) : UnSt w1 r acc o W' M A c := by
  have hne : ∀ k, TOwn M A acc.length c k → some k ≠ row := fun k hk e => (hrow k e.symm).2 (by rw [h.own]; exact hk)
  refine ⟨⟨h.row.cell.grown hg (fun e => by have := (hrow r e.symm).1; omega), h.row.map.imp id (fun ⟨mb, e, hm⟩ => ⟨mb, e, hm.block (hg.block mb hm.lt (hne mb (.inl e)))⟩), rown_block h.row.row fun k hk => hg.block k (h.row.row.lt k hk).2 (hne k (.inr hk)), h.row.small⟩, h.low, h.own, ?_⟩
  exact ⟨hg.os.trans h.turn.os, hg.tape.trans h.turn.tape, hg.output.trans h.turn.output, Nat.le_trans h.turn.size hg.size, fun k hk hs => (hg.block k (Nat.lt_of_lt_of_le hk h.turn.size) (fun e => by have := (hrow k e.symm).1; omega)).trans (h.turn.block k hk hs)⟩
theorem UnSt.put {w1 W W' : World} {r c c' : Nat} {acc : List ByteArray} {x : ByteArray} {o : Nat → Prop} {M M' : Option Nat} {A A' : Option Addr} (h : UnSt w1 r acc o W M A c) (hr : r < w1.heap.size) (hsz : w1.heap.size + 2 ≤ W.heap.size) (hp : TPut W W' r 0 M A c acc x M' A' c') :
    KeepsO w1.heap.size o W W' ∧ KeepX (fun k => k = r ∨ o k) W W' ∧ ∃ o', FreshP W o o' ∧ UnSt w1 r (addT acc x) o' W' M' A' c' := by
  have hb : ∀ k, k < W.heap.size → k ≠ r → ¬ o k → W'.heap[k]? = W.heap[k]? := fun k hk h1 h2 => hp.turn.block k hk (fun hs => hs.elim h1 (fun h3 => h2 (by rw [h.own]; exact h3)))
  refine ⟨⟨hp.turn.size, fun k ob hB ho hk _ => (hb k (Array.getElem?_eq_some_iff.1 hk).1 (by omega) ho).trans hk⟩, ⟨hp.turn.size, fun k ob hk _ hx => (hb k (Array.getElem?_eq_some_iff.1 hk).1 (fun e => hx (.inl e)) (fun e => hx (.inr e))).trans hk⟩, _, fun k hk => ?_, ⟨hp.row, fun k hk => ?_, rfl, ?_⟩⟩
  · rw [h.own]
    exact hp.fresh k hk
  · rcases hp.fresh k hk with h3 | h3
    · exact h.low k h3
    · omega
  · have hz := h.turn.size
    refine ⟨hp.turn.os.trans h.turn.os, hp.turn.tape.trans h.turn.tape, hp.turn.output.trans h.turn.output, Nat.le_trans hz hp.turn.size, fun k hk hs => (hb k (by omega) hs (fun e => ?_)).trans (h.turn.block k hk hs)⟩
    rw [h.own] at e
    have := h.low k e
    omega

set_option maxRecDepth 100000 in
set_option maxHeartbeats 1000000 in
theorem unlikeS_any (c1 b : Nat) (A : Option Addr) (n c : Nat) (xs : List ByteArray) (hlen : xs.length = n) (hA : 0 < n → A = some ⟨b, 0, none⟩) (hn : n ≤ 100000) (hsm : ∀ x ∈ xs, x.size ≤ 65536) (w : World) (h1 : Holds w c1 50 [.slice A n c]) (h2 : 0 < n → TxtsAt w b xs) :
    Calls Try.prog 44 #[.func (.func 72) #[] #[.pointer (some ⟨c1, 0, none⟩)]] w fun e w' => ∃ A' m c', e = .returned (.slice A' m c') ∧ w'.ownsRow 0 9 1 (.slice A' m c') m (strs (unlikeT xs)) ∧ (∀ k, (Value.slice A' m c').ownBlock = some k → w.heap.size ≤ k) ∧ Below w.heap.size w w' := by
  have hfr : (#[.func (.func 72) #[] #[.pointer (some ⟨c1, 0, none⟩)]] ++ Array.replicate (Try.f44.ntmps - (#[.func (.func 72) #[] #[.pointer (some ⟨c1, 0, none⟩)]] : Array Value).size) undef : Array Value) = #[.func (.func 72) #[] #[.pointer (some ⟨c1, 0, none⟩)], undef, undef, undef, undef, undef, undef, undef, undef, undef, undef, undef] := by kernel_rfl
  obtain ⟨r, hr⟩ : ∃ r, w.heap.size = r := ⟨_, rfl⟩
  obtain ⟨W1, hW1⟩ : ∃ V, w.alloc (.cells #[.map none, .slice none 0 0] 138) = V := ⟨_, rfl⟩
  have hb1 : Below w.heap.size w W1 := by rw [← hW1]; exact (Below.refl _ _).alloc (Nat.le_refl _) _
  have hs1 := hid (show W1.heap.size = r + 1 from by rw [← hW1, World.size_alloc, hr])
  have hH1 : Holds W1 r 138 [.map none, .slice none 0 0] := by rw [← hW1, ← hr]; exact Holds.new w _ #[.map none, .slice none 0 0]
  have h0 := hid (show UnSt W1 r (([] : List Nat).map (fun i => xs.getD i ⟨#[]⟩) |>.foldl addT []) (fun _ => False) W1 none none 0 from ⟨⟨hH1, .inl ⟨rfl, rfl⟩, World.ownsRow_nil _ _ _ _, fun x hx => by cases hx⟩, fun k hk => hk.elim (fun e => nomatch e) (fun e => nomatch e), funext fun k => propext ⟨False.elim, fun hk => hk.elim (fun e => nomatch e) (fun e => nomatch e)⟩, TurnS.refl _ _⟩)
  have hseq := hid (sValS_all 10 (fun k => k = r) c1 b A n c xs hlen hA hn (fun h e => by have := (h2 h).lt; omega) W1 (h1.below hb1 h1.lt) (fun h => (h2 h).on (hb1.block b (h2 h).lt)))
  have hW1' := hid hW1
  have hb1' := hid hb1
  have hr' := hid hr
  have hn' := hid hn
  have hl' := hid hlen
  have hsm' := hid hsm
  clear h1 h2 hH1 hb1 hW1 hA hr hn hlen hsm
  refine callsIn_wide.1 (callsIn_of_wp_marks (n := 12) Try.func44 rfl trivial ?_ rfl)
  rw [hfr]
  refine wpIn_wide.2 ?_
  clear hfr
  go_wp2_with (first
    | ((with_reducible refine at_slot (some 3) ?_); refine wpList_run rfl (.pointer (some ⟨r, 0, none⟩)) (w.alloc (.cells #[.map none, .slice none 0 0] 138)) (by rw [← hr'.out]; kernel_rfl) ?_; rw [hW1'.out])
    | fail)
  refine (wpIn_wide (n := 12)).1 ?_
  refine wpIn_range_own rfl (by omega) (gf := 72) (lb := #[.pointer (some ⟨c1, 0, none⟩)]) rfl trivial (enters_of Try.func72 (by kernel_rfl) rfl)
    hseq.out (Below.refl _ _) (fun _ => rfl) (fun r h => h.elim) KeepX.trans (fun q W l o o' _ hl ho => KeepX.put W l o o' hl ho)
    (fun pre o W => ∃ M A c, UnSt W1 r ((pre.map (fun i => xs.getD i ⟨#[]⟩)).foldl addT []) o W M A c)
    (fun s o A B row ⟨M, A', c', h⟩ hg hr => ⟨M, A', c', h.iter (by have := hs1.out; omega) hg (fun k e => (hr k e).elim id False.elim)⟩)
    (fun s o A k ⟨M, A', c', h⟩ hk => h.low k (by rw [← h.own]; exact hk))
    ⟨none, none, 0, h0.out⟩
    (fun x a' _ => a' = { tmps := #[.func (.func 72) #[] #[.pointer (some ⟨c1, 0, none⟩)], undef, .slice none 0 0, .pointer (some ⟨r, 0, none⟩), .string (xs.getD x ⟨#[]⟩), .func (.func 72) #[] #[.pointer (some ⟨c1, 0, none⟩)], .string (xs.getD x ⟨#[]⟩), undef, undef, undef, undef, undef], defers := [] })
    (fun _ _ _ _ _ hs _ _ => hs) ?assign ?body ?done
  case assign =>
    rintro l pre x o V K hz hI hK
    gi_wp2_with fail
    exact hK _ _ (KeepsFrom.refl _ _) (KeepX.refl _ _) hI rfl
  case body =>
    rintro l pre x o a' W hl hsz ⟨r0, hr0⟩ ⟨M, A', c', hI⟩ rfl hlt
    obtain ⟨acc, hacc⟩ : ∃ acc, (pre.map (fun i => xs.getD i ⟨#[]⟩)).foldl addT [] = acc := ⟨_, rfl⟩
    obtain ⟨s, hs⟩ : ∃ s, xs.getD x ⟨#[]⟩ = s := ⟨_, rfl⟩
    rw [hacc] at hI
    have hss : s.size ≤ 65536 := by
      rw [← hs, List.getD_eq_getElem?_getD]
      cases h : xs[x]? with
      | none => show (0 : Nat) ≤ 65536; omega
      | some y => exact hsm'.out y (List.mem_of_getElem? h)
    have hal : acc.length ≤ 100000 := by
      have := foldT_len (pre.map (fun i => xs.getD i ⟨#[]⟩)) []
      rw [hacc, List.length_map] at this
      have := hn'.out
      have e0 : ([] : List ByteArray).length = 0 := rfl
      omega
    have hput := hid (rowPut_any r 0 M A' c' acc s W hI.row (Nat.zero_le _) hal hss)
    have hI' := hid hI
    have hacc' := hid hacc
    have hs' := hid hs
    have hsz' := hid hsz
    clear hI hacc hss hal hlt hsz
    rw [hs]
    clear hs
    gi_wp2_with fail
    refine ⟨trivial, CallsIn.inRound l (callsIn_wide.2 (hput.out.mono ?_))⟩
    rintro e W' ⟨⟨v, rfl⟩, M', A2, c2, hp⟩
    have hfin := hid (hI'.out.put (by have := hs1.out; omega) hsz'.out hp)
    gi_wp2_with fail
    obtain ⟨e1, e2, o', e3, e4⟩ := hfin.out
    refine ⟨e1, e2, o', e3, M', A2, c2, ?_⟩
    have hs2 : xs[x]?.getD ⟨#[]⟩ = s := by rw [← List.getD_eq_getElem?_getD]; exact hs'.out
    have ha2 : (pre.map fun i => xs[i]?.getD ⟨#[]⟩).foldl addT [] = acc := by rw [← hacc'.out]; simp only [List.getD_eq_getElem?_getD]
    rw [ha2, hs2]
    exact e4
  case done =>
    rintro D ys o W hD rfl ⟨M, A', c', hI⟩ hK
    rw [← hl'.out, range_getD] at hI
    obtain ⟨acc, hacc⟩ : ∃ acc, xs.foldl addT [] = acc := ⟨_, rfl⟩
    rw [hacc] at hI
    have hI' := hid hI
    have hK' := hid hK
    have hacc' := hid hacc
    have c1 := hI.row.cell.cO 1 _ rfl
    clear hI hK hacc
    go_wp2_with fail
    refine ⟨by simp, .inl ⟨_, _, rfl, run_takeDeferred hK'.out, ?_⟩⟩
    have hsz := hI'.out.turn.size
    have h1 := hs1.out
    have h2 := hr'.out
    refine ⟨.slice A' acc.length c', by simp [results, Try.f44, go_sem], A', acc.length, c', rfl, ?_, fun k hk => ?_, ⟨?_, ?_, ?_, ?_, fun k hk => ?_⟩⟩
    · unfold unlikeT
      rw [hacc'.out]
      exact ownsRow_putObj hI'.out.row.row _ hK'.out rfl
    · have := hI'.out.low k (.inr hk)
      omega
    · exact hI'.out.turn.os.trans hb1'.out.os
    · exact hI'.out.turn.tape.trans hb1'.out.tape
    · exact hI'.out.turn.output.trans hb1'.out.output
    · rw [World.putObj_size]; omega
    · exact (World.putObj_heap_other (by omega)).trans ((hI'.out.turn.block k (by omega) (by omega)).trans (hb1'.out.block k hk))

end Go.Proofs.Ytpjfhbmegabafaa
