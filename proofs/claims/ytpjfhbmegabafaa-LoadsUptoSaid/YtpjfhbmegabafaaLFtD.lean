/- Layer 12, the program's side: what Build holds in its rounds. -/
import Derived.Test.YtpjfhbmegabafaaLFtC
namespace Go.Proofs.Ytpjfhbmegabafaa
open Go.RowKit
attribute [local irreducible] Sha.compress Sha.blocks Sha.sha Sha.pad

/-- What Build holds in a round: its objects, the hashes of this row so far; what it had before, but for its own cells. -/
structure BuAt (w1 : World) (c5 ca c1 B k0 : Nat) (r0 : Option Nat) (xs0 ds : List ByteArray) (n : Nat) (o : Nat → Prop) (W : World) (A5 : Option Addr) (m5 : Nat) (A8 : Option Addr) (m8 : Nat) : Prop where
  obs : ObsAt W c5 B A5 (k0 + n) m5 (xs0 ++ ds.take n)
  acc : Holds W ca 62 [.slice A8 n m8]
  row : W.ownsRow (w1.heap.size + 2) 33 32 (.slice A8 n m8) n (hashCells ((ds.take n).map obHash))
  turn : TurnS (fun k => k = c5 ∨ k = ca ∨ k = c1 ∨ r0 = some k) w1 W
  low : ∀ k, (Value.slice A5 (k0 + n) m5).ownBlock = some k → r0 = some k ∨ w1.heap.size + 2 ≤ k
  own : o = fun k => ((Value.slice A5 (k0 + n) m5).ownBlock = some k ∨ (Value.slice A8 n m8).ownBlock = some k) ∧ w1.heap.size + 2 ≤ k
section
variable {w1 W W' : World} {c5 ca c1 B k0 n : Nat} {r0 : Option Nat} {xs0 ds : List ByteArray} {o : Nat → Prop} {A5 A8 : Option Addr} {m5 m8 : Nat} {row : Option Nat}
theorem own_cells {w : World} {B n size k : Nat} {e : TypeId} {v : Value} {xs : List Value} (h : w.ownsRow B e size v n xs) (hk : v.ownBlock = some k) : ∃ c t f, w.heap[k]? = some (.cells c t f) := by
  rcases h.2 with ⟨hn, _⟩ | ⟨q, cap, cur, hv, hb, hq, rest⟩
  · rw [hn] at hk; cases hk
  · rw [hv] at hk
    have e2 : q = k := Option.some.inj hk
    subst e2
    exact ⟨_, _, _, hq⟩
theorem own_hold {w : World} {B n size k : Nat} {e : TypeId} {v : Value} {xs : List Value} (h : w.ownsRow B e size v n xs) (hk : v.ownBlock = some k) : ∃ cs, Holds w k e cs := by
  rcases h.2 with ⟨hn, _⟩ | ⟨q, cap, cur, hv, hb, hq, rest⟩
  · rw [hn] at hk; cases hk
  · rw [hv] at hk
    have e2 : q = k := Option.some.inj hk
    subst e2
    exact ⟨cur.toList, hq⟩
/-- The iterator writes its own. -/
theorem BuAt.iter (h : BuAt w1 c5 ca c1 B k0 r0 xs0 ds n o W A5 m5 A8 m8) (h5 : c5 < w1.heap.size ∧ c5 ≠ c1) (ha : ca < w1.heap.size ∧ ca ≠ c1) (hr : ∀ k, r0 = some k → k < w1.heap.size ∧ k ≠ c1) (hg : W.grownBy W' row) (hrow : ∀ r, row = some r → (w1.heap.size ≤ r ∧ ¬ o r) ∨ r = c1) (hc1 : c1 < w1.heap.size) : BuAt w1 c5 ca c1 B k0 r0 xs0 ds n o W' A5 m5 A8 m8 := by
  have far : ∀ g, g < w1.heap.size → g ≠ c1 → some g ≠ row := fun g h1 h2 e => by
    rcases hrow g e.symm with h3 | h3
    · omega
    · exact h2 h3
  have own5 : ∀ g, (Value.slice A5 (k0 + n) m5).ownBlock = some g → some g ≠ row := fun g hg2 e => by
    rcases h.low g hg2 with h3 | h3
    · exact far g (hr g h3).1 (hr g h3).2 e
    · rcases hrow g e.symm with h4 | h4
      · exact h4.2 (by rw [h.own]; exact ⟨.inl hg2, h3⟩)
      · omega
  have own8 : ∀ g, (Value.slice A8 n m8).ownBlock = some g → some g ≠ row := fun g hg2 e => by
    have h3 := (h.row.lt g hg2).1
    rcases hrow g e.symm with h4 | h4
    · exact h4.2 (by rw [h.own]; exact ⟨.inr hg2, h3⟩)
    · omega
  exact ⟨⟨h.obs.cell.grown hg (far c5 h5.1 h5.2), rown_block h.obs.row fun g hq => hg.block g (h.obs.row.lt g hq).2 (own5 g hq)⟩, h.acc.grown hg (far ca ha.1 ha.2), rown_block h.row fun g hq => hg.block g (h.row.lt g hq).2 (own8 g hq),
    ⟨hg.os.trans h.turn.os, hg.tape.trans h.turn.tape, hg.output.trans h.turn.output, Nat.le_trans h.turn.size hg.size, fun k hk hs => (hg.block k (Nat.lt_of_lt_of_le hk h.turn.size) (far k hk (fun e => hs (.inr (.inr (.inl e)))))).trans (h.turn.block k hk hs)⟩, h.low, h.own⟩
theorem BuAt.mine (h : BuAt w1 c5 ca c1 B k0 r0 xs0 ds n o W A5 m5 A8 m8) {k : Nat} (hk : o k) : w1.heap.size + 2 ≤ k ∧ ∃ c t f, W.heap[k]? = some (.cells c t f) := by
  rw [h.own] at hk
  refine ⟨hk.2, hk.1.elim (fun e => own_cells h.obs.row e) (fun e => own_cells h.row e)⟩
theorem ds_next {ds : List ByteArray} {n : Nat} {d : ByteArray} (h : ds[n]? = some d) : ds.take (n + 1) = ds.take n ++ [d] := by
  rw [List.take_add_one, h]
  rfl
/-- A round: something put, its hash behind the others. -/
theorem BuAt.step {W1 W2 W3 : World} {d : ByteArray} {A5' A8' : Option Addr} {m5' m8' : Nat} (h : BuAt w1 c5 ca c1 B k0 r0 xs0 ds n o W A5 m5 A8 m8) (hd : ds[n]? = some d) (h5a : c5 ≠ ca) (hca : ca < w1.heap.size) (hc5 : c5 < w1.heap.size) (hsz : w1.heap.size + 2 ≤ W.heap.size)
    (hO : ObsAt W1 c5 B A5' (k0 + n + 1) m5' (xs0 ++ ds.take n ++ [d])) (hF : Fresh W (Value.slice A5 (k0 + n) m5).ownBlock (Value.slice A5' (k0 + n + 1) m5').ownBlock) (hT : TurnS (fun q => q = c5 ∨ (Value.slice A5 (k0 + n) m5).ownBlock = some q) W W1)
    (hR : W2.ownsRow (w1.heap.size + 2) 33 32 (.slice A8' (n + 1) m8') (n + 1) (hashCells ((ds.take n).map obHash) ++ byteCells (obHash d))) (hg : W1.grownBy W2 (Value.slice A8 n m8).ownBlock) (hF8 : Fresh W1 (Value.slice A8 n m8).ownBlock (Value.slice A8' (n + 1) m8').ownBlock)
    (e : W2.setCell ⟨ca, 0, none⟩ (.slice A8' (n + 1) m8') = W3) :
    ∃ o', FreshP W o o' ∧ BuAt w1 c5 ca c1 B k0 r0 xs0 ds (n + 1) o' W3 A5' m5' A8' m8' ∧ KeepX (fun k => (k = c5 ∨ k = ca ∨ r0 = some k) ∨ o k) W W3 ∧ KeepsFrom w1.heap.size W W3 := by
  have hacc1 : Holds W1 ca 62 [.slice A8 n m8] := hT.holds h.acc (fun hs => by
    rcases hs with e2 | e2
    · exact h5a e2.symm
    · exact own_neF h.obs.row e2 h.acc (by decide) rfl)
  have hrow1 : W1.ownsRow (w1.heap.size + 2) 33 32 (.slice A8 n m8) n (hashCells ((ds.take n).map obHash)) := rown_block h.row fun g hq => hT.block g (h.row.lt g hq).2 (fun hs => by
    rcases hs with e2 | e2
    · exact own_neF h.row hq h.obs.cell (by decide) e2
    · have h1 := own_hold h.obs.row e2
      obtain ⟨cs, h1⟩ := h1
      exact own_neF h.row hq h1 (by decide) rfl)
  have hacc2 : Holds W2 ca 62 [.slice A8 n m8] := hacc1.grown hg (fun e2 => own_neF hrow1 e2.symm hacc1 (by decide) rfl)
  have hO2 : ObsAt W2 c5 B A5' (k0 + n + 1) m5' (xs0 ++ ds.take n ++ [d]) := ⟨hO.cell.grown hg (fun e2 => own_neF hrow1 e2.symm hO.cell (by decide) rfl), rown_block hO.row fun g hq => hg.block g (hO.row.lt g hq).2 (fun e2 => by
    obtain ⟨cs, h1⟩ := own_hold hO.row hq
    exact own_neF hrow1 e2.symm h1 (by decide) rfl)⟩
  have hlt : ca < W2.heap.size := hacc2.lt
  have hz : W.heap.size ≤ W3.heap.size := by rw [← e, World.size_setCell]; exact Nat.le_trans hT.size hg.size
  have stay : ∀ k, k < W.heap.size → k ≠ c5 → k ≠ ca → (Value.slice A5 (k0 + n) m5).ownBlock ≠ some k → (Value.slice A8 n m8).ownBlock ≠ some k → W3.heap[k]? = W.heap[k]? := fun k hk k1 k2 k3 k4 => by
    rw [← e]
    refine (heap_setCell_other _ _ _ _ k2).trans ?_
    exact (hg.block k (Nat.lt_of_lt_of_le hk hT.size) (fun e2 => k4 e2.symm)).trans (hT.block k hk (fun hs => hs.elim k1 k3))
  refine ⟨fun k => ((Value.slice A5' (k0 + (n + 1)) m5').ownBlock = some k ∨ (Value.slice A8' (n + 1) m8').ownBlock = some k) ∧ w1.heap.size + 2 ≤ k, fun k hk => ?_, ⟨?_, ?_, ?_, ?_, fun k hk => ?_, rfl⟩, ⟨hz, fun k ob ho hc hx => ?_⟩, ⟨hz, fun k ob hk ho hc => ?_⟩⟩
  · rw [h.own]
    rcases hk with ⟨h1 | h1, h2⟩
    · rcases hF with e2 | ⟨q, e2, hq⟩
      · exact .inl ⟨.inl (by rw [← e2]; exact h1), h2⟩
      · have e3 : some q = some k := e2.symm.trans h1
        exact .inr (by have := Option.some.inj e3; omega)
    · rcases hF8 with e2 | ⟨q, e2, hq⟩
      · exact .inl ⟨.inr (by rw [← e2]; exact h1), h2⟩
      · have e3 : some q = some k := e2.symm.trans h1
        exact .inr (by have := Option.some.inj e3; have := hT.size; omega)
  · rw [ds_next hd, ← List.append_assoc, ← e]
    exact ⟨hO2.cell.far ⟨ca, 0, none⟩ h5a _, rown_block hO2.row fun g hq => heap_setCell_other _ _ _ _ (own_neF hO2.row hq hacc2 (by decide))⟩
  · rw [← e]
    exact hacc2.set 0 _
  · have e3 : hashCells ((ds.take (n + 1)).map obHash) = hashCells ((ds.take n).map obHash) ++ byteCells (obHash d) := by rw [ds_next hd, List.map_append]; simp [hashCells]
    rw [e3, ← e]
    exact rown_block hR fun g hq => heap_setCell_other _ _ _ _ (own_neF hR hq hacc2 (by decide))
  · have hw : w1.heap.size ≤ W.heap.size := h.turn.size
    refine ⟨?_, ?_, ?_, Nat.le_trans h.turn.size hz, fun k hk hs => ?_⟩
    · rw [← e]; exact hg.os.trans (hT.os.trans h.turn.os)
    · rw [← e]; exact hg.tape.trans (hT.tape.trans h.turn.tape)
    · rw [← e]; exact hg.output.trans (hT.output.trans h.turn.output)
    · refine (stay k (by omega) (fun e2 => hs (.inl e2)) (fun e2 => hs (.inr (.inl e2))) (fun e2 => ?_) (fun e2 => ?_)).trans (h.turn.block k hk hs)
      · rcases h.low k e2 with h3 | h3
        · exact hs (.inr (.inr (.inr h3)))
        · omega
      · have := (h.row.lt k e2).1
        omega
  · rcases hF with e2 | ⟨q, e2, hq⟩
    · exact h.low k (by rw [← e2]; exact hk)
    · have e3 : some q = some k := e2.symm.trans hk
      exact .inr (by have := Option.some.inj e3; omega)
  · refine (stay k (Array.getElem?_eq_some_iff.1 ho).1 (fun e2 => hx (.inl (.inl e2))) (fun e2 => hx (.inl (.inr (.inl e2)))) (fun e2 => ?_) (fun e2 => ?_)).trans ho
    · rcases h.low k e2 with h3 | h3
      · exact hx (.inl (.inr (.inr h3)))
      · exact hx (.inr (by rw [h.own]; exact ⟨.inl e2, h3⟩))
    · exact hx (.inr (by rw [h.own]; exact ⟨.inr e2, (h.row.lt k e2).1⟩))
  · have nc : ∀ {cs : Array Value} {t : TypeId} {f : Nat × Nat}, W.heap[k]? ≠ some (.cells cs t f) := fun {cs t f} h3 => by
      rw [ho] at h3
      cases h3
      cases hc
    refine (stay k (Array.getElem?_eq_some_iff.1 ho).1 (fun e2 => ?_) (fun e2 => ?_) (fun e2 => ?_) (fun e2 => ?_)).trans ho
    · subst e2
      exact nc h.obs.cell
    · subst e2
      exact nc h.acc
    · obtain ⟨_, _, _, h3⟩ := own_cells h.obs.row e2
      exact nc h3
    · obtain ⟨_, _, _, h3⟩ := own_cells h.row e2
      exact nc h3
end

end Go.Proofs.Ytpjfhbmegabafaa
