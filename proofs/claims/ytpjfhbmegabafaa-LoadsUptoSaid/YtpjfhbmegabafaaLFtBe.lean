/- Layer 12, the program's side: below. -/
import Derived.Test.YtpjfhbmegabafaaLFtHs
import Derived.Test.YtpjfhbmegabafaaLFtGa
namespace Go.Proofs.Ytpjfhbmegabafaa
open Go.RowKit
attribute [local irreducible] Sha.compress Sha.blocks Sha.sha Sha.pad
attribute [local go_sem] Oper.semAt_some

/-- What a row of texts by their hashes has of a hash. -/
def ksGet (ks : List (List UInt8 × ByteArray)) (k : List UInt8) : Option ByteArray := (ks.find? (fun p => p.1 == k)).map (·.2)
theorem ksGet_some {ks : List (List UInt8 × ByteArray)} {k : List UInt8} {y : ByteArray} (hu : (ks.map (·.1)).Nodup) (h : (k, y) ∈ ks) : ksGet ks k = some y := by
  unfold ksGet
  induction ks with
  | nil => cases h
  | cons p ks ih =>
    rw [List.map_cons, List.nodup_cons] at hu
    rw [List.find?_cons]
    rcases List.mem_cons.1 h with rfl | h2
    · simp
    · have hne : (p.1 == k) = false := by
        rw [beq_eq_false_iff_ne]
        rintro rfl
        exact hu.1 (List.mem_map.2 ⟨_, h2, rfl⟩)
      rw [hne]
      exact ih hu.2 h2
theorem ksGet_none {ks : List (List UInt8 × ByteArray)} {k : List UInt8} (h : ∀ p ∈ ks, p.1 ≠ k) : ksGet ks k = none := by
  unfold ksGet
  rw [List.find?_eq_none.2 (fun p hp => by simpa using h p hp)]
  rfl
/-- What is below a row of hashes; what is wanting; none: one is not as it must be. -/
def lvl (get : List UInt8 → Option ByteArray) (may : Nat → ByteArray → Bool) : Nat → List (List UInt8) → List ByteArray → List (List UInt8) → Option (List ByteArray × List (List UInt8))
  | _, [], acc, want => some (acc, want)
  | i, h :: hs, acc, want => match get h with
    | none => lvl get may (i + 1) hs acc (want ++ [h])
    | some x => if may i x then lvl get may (i + 1) hs (acc ++ [insideT x]) want else none
section
variable {get : List UInt8 → Option ByteArray} {may : Nat → ByteArray → Bool} {i : Nat} {hs : List (List UInt8)} {h : List UInt8} {x : ByteArray} {acc : List ByteArray} {want : List (List UInt8)}
theorem lvl_want (e : get h = none) : lvl get may i (h :: hs) acc want = lvl get may (i + 1) hs acc (want ++ [h]) := by
  rw [lvl, e]
theorem lvl_in (e : get h = some x) (hm : may i x = true) : lvl get may i (h :: hs) acc want = lvl get may (i + 1) hs (acc ++ [insideT x]) want := by
  rw [lvl, e]
  exact if_pos hm
theorem lvl_bad (e : get h = some x) (hm : may i x = false) : lvl get may i (h :: hs) acc want = none := by
  rw [lvl, e]
  exact if_neg (by rw [hm]; decide)
end
/-- Texts that inside may be asked of. -/
def InsOk (x : ByteArray) : Prop := (1 ≤ x.size ∧ x.extract 0 1 = ⟨#[66]⟩) ∨ (2 ≤ x.size ∧ x.extract 0 1 ≠ ⟨#[66]⟩)
theorem inside_any {x : ByteArray} (h : InsOk x) (w : World) : Calls Try.prog 76 #[.string x] w fun e w' => e = .returned (.string (insideT x)) ∧ w' = w := by
  unfold insideT
  rcases h with ⟨h1, h2⟩ | ⟨h1, h2⟩
  · rw [if_pos h2]; exact inside_block x h1 h2 w
  · rw [if_neg h2]; exact inside_node x h1 h2 w
theorem pcsL_len {xs : List ByteArray} (h : ∀ x ∈ xs, x.size % 32 = 0) : ∀ p ∈ pcsL xs, p.length = 32 := fun p hp => by
  obtain ⟨x, hx, hp⟩ := List.mem_flatMap.1 hp
  obtain ⟨j, hj, rfl⟩ := List.mem_map.1 hp
  exact pc_len (h x hx) (List.mem_range.1 hj)
/-- Blocks laid one behind the other. -/
def allocs (os : List (Array Value × TypeId)) (w : World) : World := os.foldl (fun w o => w.alloc (.cells o.1 o.2)) w
theorem allocs_any : ∀ (os : List (Array Value × TypeId)) (w : World), (allocs os w).heap.size = w.heap.size + os.length ∧ Below w.heap.size w (allocs os w) ∧ ∀ i o, os[i]? = some o → Holds (allocs os w) (w.heap.size + i) o.2 o.1.toList
  | [], w => ⟨rfl, Below.refl _ _, fun i o h => by simp at h⟩
  | o :: os, w => by
    obtain ⟨h1, h2, h3⟩ := allocs_any os (w.alloc (.cells o.1 o.2))
    have hb : Below w.heap.size w (w.alloc (.cells o.1 o.2)) := (Below.refl _ _).alloc (Nat.le_refl _) _
    have hs : (w.alloc (.cells o.1 o.2)).heap.size = w.heap.size + 1 := by rw [World.size_alloc]
    refine ⟨by rw [show allocs (o :: os) w = allocs os (w.alloc (.cells o.1 o.2)) from rfl, h1, hs, List.length_cons]; omega, hb.trans (h2.mono (by omega)), fun i p hp => ?_⟩
    cases i with
    | zero =>
      obtain rfl : o = p := by simpa using hp
      have hH := Holds.new w o.2 o.1
      exact hH.below h2 hH.lt
    | succ i =>
      have := h3 i p (by simpa using hp)
      rw [hs] at this
      rw [show w.heap.size + (i + 1) = w.heap.size + 1 + i from by omega]
      exact this
/-- What below holds between two rounds. -/
structure BeSt (w : World) (g r : Nat) (mv : Value) (i : Nat) (acc : List ByteArray) (want : List (List UInt8)) (Ai : Option Addr) (ci : Nat) (Aw : Option Addr) (cw : Nat) (V : World) : Prop where
  fc : Holds V g 102 [.pointer (some ⟨r, 0, none⟩)]
  mc : Holds V (g + 1) 106 [mv]
  r1 : Holds V (g + 2) 50 [.slice none 0 0]
  r2 : Holds V (g + 3) 62 [.slice none 0 0]
  r3 : Holds V (g + 4) 24 [.int .i64 0]
  ic : Holds V (g + 5) 50 [.slice Ai acc.length ci]
  wc : Holds V (g + 6) 62 [.slice Aw want.length cw]
  nc : Holds V (g + 7) 3 [.int .i64 (i : Int)]
  ri : V.ownsRow (g + 11) 9 1 (.slice Ai acc.length ci) acc.length (strs acc)
  rw : V.ownsRow (g + 11) 33 32 (.slice Aw want.length cw) want.length (hashCells want)
  bel : Below g w V
def beOwn (acc : List ByteArray) (want : List (List UInt8)) (Ai : Option Addr) (ci : Nat) (Aw : Option Addr) (cw : Nat) (q : Nat) : Prop := (Value.slice Ai acc.length ci).ownBlock = some q ∨ (Value.slice Aw want.length cw).ownBlock = some q
/-- Only these blocks are turned. -/
def BeTurn (g : Nat) (o : Nat → Prop) (V V' : World) : Prop := V.heap.size ≤ V'.heap.size ∧ ∀ k, k < V.heap.size → ¬ (g + 2 ≤ k ∧ k < g + 8) → ¬ o k → V'.heap[k]? = V.heap[k]?
section
variable {w V V' : World} {g r i : Nat} {mv : Value} {acc : List ByteArray} {want : List (List UInt8)} {Ai Aw : Option Addr} {ci cw : Nat} {o : Nat → Prop}
theorem BeTurn.keepsO (h : BeTurn g o V V') : KeepsO (g + 9) o V V' := ⟨h.1, fun k ob hk ho hb _ => (h.2 k (Array.getElem?_eq_some_iff.1 hb).1 (by omega) ho).trans hb⟩
theorem BeTurn.keepX (h : BeTurn g o V V') : KeepX (fun k => (g + 2 ≤ k ∧ k < g + 8) ∨ o k) V V' := ⟨h.1, fun k _ hb _ ho => (h.2 k (Array.getElem?_eq_some_iff.1 hb).1 (fun e => ho (.inl e)) (fun e => ho (.inr e))).trans hb⟩
theorem BeTurn.of_below (h : Below V.heap.size V V') : BeTurn g o V V' := ⟨h.size, fun k hk _ _ => h.block k hk⟩
theorem BeTurn.trans {V2 : World} (h : BeTurn g o V V') (k : BeTurn g o V' V2) : BeTurn g o V V2 := ⟨Nat.le_trans h.1 k.1, fun j hj h1 h2 => (k.2 j (Nat.lt_of_lt_of_le hj h.1) h1 h2).trans (h.2 j hj h1 h2)⟩
theorem BeSt.own (h : BeSt w g r mv i acc want Ai ci Aw cw V) {q : Nat} (hq : beOwn acc want Ai ci Aw cw q) : g + 11 ≤ q ∧ q < V.heap.size := hq.elim (fun e => h.ri.lt q e) (fun e => h.rw.lt q e)
theorem BeSt.grown {row : Option Nat} (h : BeSt w g r mv i acc want Ai ci Aw cw V) (hg : V.grownBy V' row) (hr : ∀ q, row = some q → g + 8 ≤ q ∧ ¬ beOwn acc want Ai ci Aw cw q) : BeSt w g r mv i acc want Ai ci Aw cw V' := by
  have hne : ∀ k, k < g + 8 → some k ≠ row := fun k hk e => by have := (hr k e.symm).1; omega
  refine ⟨h.fc.grown hg (hne _ (by omega)), h.mc.grown hg (hne _ (by omega)), h.r1.grown hg (hne _ (by omega)), h.r2.grown hg (hne _ (by omega)), h.r3.grown hg (hne _ (by omega)), h.ic.grown hg (hne _ (by omega)), h.wc.grown hg (hne _ (by omega)), h.nc.grown hg (hne _ (by omega)),
    rown_block h.ri fun k hk => hg.block k (h.ri.lt k hk).2 (fun e => (hr k e.symm).2 (.inl hk)), rown_block h.rw fun k hk => hg.block k (h.rw.lt k hk).2 (fun e => (hr k e.symm).2 (.inr hk)), ?_⟩
  have hz := h.fc.lt
  exact ⟨hg.os.trans h.bel.os, hg.tape.trans h.bel.tape, hg.output.trans h.bel.output, Nat.le_trans h.bel.size hg.size, fun k hk => (hg.block k (by omega) (hne k (by omega))).trans (h.bel.block k hk)⟩
theorem BeSt.on (h : BeSt w g r mv i acc want Ai ci Aw cw V) (hb : Below V.heap.size V V') : BeSt w g r mv i acc want Ai ci Aw cw V' := h.grown (gr_of hb none) (fun _ e => nomatch e)
/-- The two rows lie apart. -/
theorem BeSt.apart (h : BeSt w g r mv i acc want Ai ci Aw cw V) {q : Nat} (h1 : (Value.slice Ai acc.length ci).ownBlock = some q) (h2 : (Value.slice Aw want.length cw).ownBlock = some q) : False := by
  obtain ⟨cs, hc⟩ := own_hold h.rw h2
  exact own_neF h.ri h1 hc (by decide) rfl
theorem be_below {V6 V8 : World} {p1 p2 : Addr} {u1 u2 : Value} (hb : Below g w V6) (h1 : g ≤ p1.block) (h2 : g ≤ p2.block) (e : (V6.setCell p1 u1).setCell p2 u2 = V8) : Below g w V8 := by
  subst e
  exact (hb.setCell h1 _).setCell h2 _
/-- A hash that is wanting, behind the others. -/
theorem be_want {V6 V7 V8 : World} {x : List UInt8} {A2 : Option Addr} {c2 : Nat} (h : BeSt w g r mv i acc want Ai ci Aw cw V) (hg : V.grownBy V6 (Value.slice Aw want.length cw).ownBlock) (hrow : V6.ownsRow (g + 11) 33 32 (.slice A2 (want.length + 1) c2) (want.length + 1) (hashCells want ++ byteCells x)) (hF : Fresh V (Value.slice Aw want.length cw).ownBlock (Value.slice A2 (want.length + 1) c2).ownBlock)
    (e7 : V6.setCell ⟨g + 6, 0, none⟩ (.slice A2 (want.length + 1) c2) = V7) (e8 : V7.setCell ⟨g + 7, 0, none⟩ (.int .i64 ((i : Int) + 1)) = V8) : BeSt w g r mv (i + 1) acc (want ++ [x]) Ai ci A2 c2 V8 ∧ BeTurn g (beOwn acc want Ai ci Aw cw) V V8 ∧ FreshP V (beOwn acc want Ai ci Aw cw) (beOwn acc (want ++ [x]) Ai ci A2 c2) := by
  have hne : ∀ k, k < g + 11 → some k ≠ (Value.slice Aw want.length cw).ownBlock := fun k hk e => by have := (h.rw.lt k e.symm).1; omega
  have hne2 : ∀ k, k < g + 11 → (Value.slice A2 (want.length + 1) c2).ownBlock ≠ some k := fun k hk e => by have := (hrow.lt k e).1; omega
  have hni : ∀ q, (Value.slice Ai acc.length ci).ownBlock = some q → some q ≠ (Value.slice Aw want.length cw).ownBlock := fun q hq e => h.apart hq e.symm
  have hlen : (want ++ [x]).length = want.length + 1 := by rw [List.length_append]; rfl
  have hcell : ∀ {t : TypeId} {cs : List Value} (k : Nat), k < g + 8 → k ≠ g + 6 → k ≠ g + 7 → Holds V k t cs → Holds V8 k t cs := fun k h1 h2 h3 hk => by
    rw [← e8, ← e7]
    exact ((hk.grown hg (hne _ (by omega))).far ⟨g + 6, 0, none⟩ h2 _).far ⟨g + 7, 0, none⟩ h3 _
  have hblk : ∀ k, k ≠ g + 6 → k ≠ g + 7 → V8.heap[k]? = V6.heap[k]? := fun k h1 h2 => by
    rw [← e8, ← e7]
    exact (heap_setCell_other _ _ _ _ h2).trans (heap_setCell_other _ _ _ _ h1)
  have hz8 : V8.heap.size = V6.heap.size := by rw [← e8, ← e7, World.size_setCell, World.size_setCell]
  refine ⟨⟨hcell _ (by omega) (by omega) (by omega) h.fc, hcell _ (by omega) (by omega) (by omega) h.mc, hcell _ (by omega) (by omega) (by omega) h.r1, hcell _ (by omega) (by omega) (by omega) h.r2, hcell _ (by omega) (by omega) (by omega) h.r3, hcell _ (by omega) (by omega) (by omega) h.ic, ?_, ?_, ?_, ?_, ?_⟩, ⟨by rw [hz8]; exact hg.size, fun k hk hX ho => ?_⟩, fun q hq => ?_⟩
  · rw [hlen, ← e8]
    exact (slice_put (h.wc.grown hg (hne _ (by omega))) e7).far ⟨g + 7, 0, none⟩ (by show g + 6 ≠ g + 7; omega) _
  · rw [← e8, ← e7]
    exact ((h.nc.grown hg (hne _ (by omega))).far ⟨g + 6, 0, none⟩ (by show g + 7 ≠ g + 6; omega) _).set 0 _
  · exact rown_block (rown_block h.ri fun k hk => hg.block k (h.ri.lt k hk).2 (hni k hk)) fun k hk => hblk k (by have := (h.ri.lt k hk).1; omega) (by have := (h.ri.lt k hk).1; omega)
  · rw [hlen, hashCells_append, hashCells_one]
    exact rown_block hrow fun k hk => hblk k (fun e => hne2 _ (by omega) (e ▸ hk)) (fun e => hne2 _ (by omega) (e ▸ hk))
  · have hz := h.fc.lt
    refine be_below (p1 := ⟨g + 6, 0, none⟩) (p2 := ⟨g + 7, 0, none⟩) (V6 := V6) ⟨hg.os.trans h.bel.os, hg.tape.trans h.bel.tape, hg.output.trans h.bel.output, Nat.le_trans h.bel.size hg.size, fun k hk => (hg.block k (by omega) (hne k (by omega))).trans (h.bel.block k hk)⟩ (by show g ≤ g + 6; omega) (by show g ≤ g + 7; omega) (by rw [e7]; exact e8)
  · exact (hblk k (by omega) (by omega)).trans (hg.block k hk (fun e => ho (.inr e.symm)))
  · rcases hq with hq | hq
    · exact .inl (.inl hq)
    · rw [hlen] at hq
      rcases hF with e2 | ⟨q2, e2, hq2⟩
      · exact .inl (.inr (by rw [← e2]; exact hq))
      · have e3 : some q2 = some q := e2.symm.trans hq
        exact .inr (by have := Option.some.inj e3; omega)
/-- One is not as it must be: the results. -/
theorem be_bad {V2 : World} {u2 u3 u4 : Value} (h : BeSt w g r mv i acc want Ai ci Aw cw V) (e : ((V.setCell ⟨g + 2, 0, none⟩ u2).setCell ⟨g + 3, 0, none⟩ u3).setCell ⟨g + 4, 0, none⟩ u4 = V2) : BeTurn g o V V2 ∧ Below g w V2 ∧ Holds V2 (g + 2) 50 [u2] ∧ Holds V2 (g + 3) 62 [u3] ∧ Holds V2 (g + 4) 24 [u4] ∧ ∀ k, k ≠ g + 2 → k ≠ g + 3 → k ≠ g + 4 → V2.heap[k]? = V.heap[k]? := by
  subst e
  refine ⟨⟨by simp [World.size_setCell], fun k _ hk _ => ?_⟩, ((h.bel.setCell (p := ⟨g + 2, 0, none⟩) (by show g ≤ g + 2; omega) _).setCell (p := ⟨g + 3, 0, none⟩) (by show g ≤ g + 3; omega) _).setCell (p := ⟨g + 4, 0, none⟩) (by show g ≤ g + 4; omega) _, ?_, ?_, ?_, fun k h1 h2 h3 => (heap_setCell_other _ _ _ _ h3).trans ((heap_setCell_other _ _ _ _ h2).trans (heap_setCell_other _ _ _ _ h1))⟩
  · exact (heap_setCell_other _ _ _ _ (by show k ≠ g + 4; omega)).trans ((heap_setCell_other _ _ _ _ (by show k ≠ g + 3; omega)).trans (heap_setCell_other _ _ _ _ (by show k ≠ g + 2; omega)))
  · exact ((h.r1.set 0 _).far ⟨g + 3, 0, none⟩ (by show g + 2 ≠ g + 3; omega) _).far ⟨g + 4, 0, none⟩ (by show g + 2 ≠ g + 4; omega) _
  · exact ((h.r2.far ⟨g + 2, 0, none⟩ (by show g + 3 ≠ g + 2; omega) _).set 0 _).far ⟨g + 4, 0, none⟩ (by show g + 3 ≠ g + 4; omega) _
  · exact ((h.r3.far ⟨g + 2, 0, none⟩ (by show g + 4 ≠ g + 2; omega) _).far ⟨g + 3, 0, none⟩ (by show g + 4 ≠ g + 3; omega) _).set 0 _
/-- A text that is there, behind the others. -/
theorem be_in {V6 V7 V8 : World} {x : ByteArray} {A2 : Option Addr} {c2 : Nat} (h : BeSt w g r mv i acc want Ai ci Aw cw V) (hg : V.grownBy V6 (Value.slice Ai acc.length ci).ownBlock) (hrow : V6.ownsRow (g + 11) 9 1 (.slice A2 (acc.length + 1) c2) (acc.length + 1) (strs (acc ++ [x]))) (hF : Fresh V (Value.slice Ai acc.length ci).ownBlock (Value.slice A2 (acc.length + 1) c2).ownBlock)
    (e7 : V6.setCell ⟨g + 5, 0, none⟩ (.slice A2 (acc.length + 1) c2) = V7) (e8 : V7.setCell ⟨g + 7, 0, none⟩ (.int .i64 ((i : Int) + 1)) = V8) : BeSt w g r mv (i + 1) (acc ++ [x]) want A2 c2 Aw cw V8 ∧ BeTurn g (beOwn acc want Ai ci Aw cw) V V8 ∧ FreshP V (beOwn acc want Ai ci Aw cw) (beOwn (acc ++ [x]) want A2 c2 Aw cw) := by
  have hne : ∀ k, k < g + 11 → some k ≠ (Value.slice Ai acc.length ci).ownBlock := fun k hk e => by have := (h.ri.lt k e.symm).1; omega
  have hne2 : ∀ k, k < g + 11 → (Value.slice A2 (acc.length + 1) c2).ownBlock ≠ some k := fun k hk e => by have := (hrow.lt k e).1; omega
  have hni : ∀ q, (Value.slice Aw want.length cw).ownBlock = some q → some q ≠ (Value.slice Ai acc.length ci).ownBlock := fun q hq e => h.apart e.symm hq
  have hlen : (acc ++ [x]).length = acc.length + 1 := by rw [List.length_append]; rfl
  have hcell : ∀ {t : TypeId} {cs : List Value} (k : Nat), k < g + 8 → k ≠ g + 5 → k ≠ g + 7 → Holds V k t cs → Holds V8 k t cs := fun k h1 h2 h3 hk => by
    rw [← e8, ← e7]
    exact ((hk.grown hg (hne _ (by omega))).far ⟨g + 5, 0, none⟩ h2 _).far ⟨g + 7, 0, none⟩ h3 _
  have hblk : ∀ k, k ≠ g + 5 → k ≠ g + 7 → V8.heap[k]? = V6.heap[k]? := fun k h1 h2 => by
    rw [← e8, ← e7]
    exact (heap_setCell_other _ _ _ _ h2).trans (heap_setCell_other _ _ _ _ h1)
  have hz8 : V8.heap.size = V6.heap.size := by rw [← e8, ← e7, World.size_setCell, World.size_setCell]
  refine ⟨⟨hcell _ (by omega) (by omega) (by omega) h.fc, hcell _ (by omega) (by omega) (by omega) h.mc, hcell _ (by omega) (by omega) (by omega) h.r1, hcell _ (by omega) (by omega) (by omega) h.r2, hcell _ (by omega) (by omega) (by omega) h.r3, ?_, hcell _ (by omega) (by omega) (by omega) h.wc, ?_, ?_, ?_, ?_⟩, ⟨by rw [hz8]; exact hg.size, fun k hk hX ho => ?_⟩, fun q hq => ?_⟩
  · rw [hlen, ← e8]
    exact (slice_put (h.ic.grown hg (hne _ (by omega))) e7).far ⟨g + 7, 0, none⟩ (by show g + 5 ≠ g + 7; omega) _
  · rw [← e8, ← e7]
    exact ((h.nc.grown hg (hne _ (by omega))).far ⟨g + 5, 0, none⟩ (by show g + 7 ≠ g + 5; omega) _).set 0 _
  · rw [hlen]
    exact rown_block hrow fun k hk => hblk k (fun e => hne2 _ (by omega) (e ▸ hk)) (fun e => hne2 _ (by omega) (e ▸ hk))
  · exact rown_block (rown_block h.rw fun k hk => hg.block k (h.rw.lt k hk).2 (hni k hk)) fun k hk => hblk k (by have := (h.rw.lt k hk).1; omega) (by have := (h.rw.lt k hk).1; omega)
  · have hz := h.fc.lt
    refine be_below (p1 := ⟨g + 5, 0, none⟩) (p2 := ⟨g + 7, 0, none⟩) (V6 := V6) ⟨hg.os.trans h.bel.os, hg.tape.trans h.bel.tape, hg.output.trans h.bel.output, Nat.le_trans h.bel.size hg.size, fun k hk => (hg.block k (by omega) (hne k (by omega))).trans (h.bel.block k hk)⟩ (by show g ≤ g + 5; omega) (by show g ≤ g + 7; omega) (by rw [e7]; exact e8)
  · exact (hblk k (by omega) (by omega)).trans (hg.block k hk (fun e => ho (.inl e.symm)))
  · rcases hq with hq | hq
    · rw [hlen] at hq
      rcases hF with e2 | ⟨q2, e2, hq2⟩
      · exact .inl (.inl (by rw [← e2]; exact hq))
      · have e3 : some q2 = some q := e2.symm.trans hq
        exact .inr (by have := Option.some.inj e3; omega)
    · exact .inl (.inr hq)
end
section
variable {n l : Nat} {ops : Array Oper} {rest : List Oper} {a : Act} {w : World} {Q : Exit → Act → World → Prop}
theorem wpListIn_ofR {P : Program} {o : Oper} (hg : o.guard = none) (hd : ∀ c, o.op ≠ .defer c) (h : ∀ K, (∀ a' w', wpListIn (Fence.wide.inRound l) n P ops Q rest a' w' → K a' w') → o.wp P a w K Q) : wpListIn (Fence.wide.inRound l) n P ops Q (o :: rest) a w :=
  wpListIn_plain hg fun K hK => oper_round hd (h K hK)
/-- One hash put behind a row of hashes, in a round. -/
theorem wpListIn_pushHash {o1 o2 : Oper} (hg1 : o1.guard = none) (hg2 : o2.guard = none) (x s y : Operand) (ho1 : o1.op = .buildSlice 62 1 #[(0, x)]) (ho2 : o2.op = .call { callee := .builtin .append, args := #[s, y], argTypes := #[62, 62] })
    (B : Nat) (A : Option Addr) (n' c : Nat) (cs : List Value) (h : List UInt8) (hx : a.eval x = .agg (byteCells h).toArray) (hs : (a.put o1.dst (.slice (some ⟨w.heap.size, 0, none⟩) 1 1)).eval s = .slice A n' c) (hy : (a.put o1.dst (.slice (some ⟨w.heap.size, 0, none⟩) 1 1)).eval y = .slice (some ⟨w.heap.size, 0, none⟩) 1 1)
    (h32 : h.length = 32) (h63 : n' ≤ 1000000) (hown : w.ownsRow B 33 32 (.slice A n' c) n' cs) (hB : B ≤ w.heap.size)
    (hk : ∀ A2 c2 w', w'.ownsRow B 33 32 (.slice A2 (n' + 1) c2) (n' + 1) (cs ++ byteCells h) → w.grownBy w' (Value.slice A n' c).ownBlock → Fresh w (Value.slice A n' c).ownBlock (Value.slice A2 (n' + 1) c2).ownBlock → wpListIn (Fence.wide.inRound l) n Try.prog ops Q rest ((a.put o1.dst (.slice (some ⟨w.heap.size, 0, none⟩) 1 1)).put o2.dst (.slice A2 (n' + 1) c2)) w') :
    wpListIn (Fence.wide.inRound l) n Try.prog ops Q (o1 :: o2 :: rest) a w := by
  obtain ⟨i0, hi0, hz0, hz1, hz2⟩ := info_parts Try.infoHashD
  have hC := hash_cells h h32
  refine wpListIn_ofR hg1 (fun c e => by rw [ho1] at e; cases e) fun K hK => ?_
  refine wp_build_oneF 62 33 x ho1 i0 _ Try.underlying62 hi0 hz0 (byteCells h).toArray hx (by rw [hz1, List.size_toArray, hC.len]) (by rw [List.size_toArray, hC.len]; decide) (by rw [List.size_toArray, hC.len]; decide) ?_
  refine hK _ _ ?_
  clear hK K
  have hb1 : Below w.heap.size w (w.alloc (.cells (byteCells h).toArray 33)) := (Below.refl _ _).alloc (Nat.le_refl _) _
  have hH := Holds.new w 33 (byteCells h).toArray
  refine wpListIn_ofR hg2 (fun c e => by rw [ho2] at e; cases e) fun K hK => ?_
  refine wp_appendH s y ho2 B A n' c w.heap.size cs h hs hy h32 h63 (rown_onF hown hb1) hH (Nat.le_trans hB hb1.size) ?_
  intro A2 c2 w' hrow hg hf
  exact hK _ _ (hk A2 c2 w' hrow (gr_trans (gr_of hb1 _) hg) (hf.low hb1))
end
section
variable {o : Oper} {a : Act} {w : World} {K : Act → World → Prop} {Q : Exit → Act → World → Prop}
theorem wp_buildT (x : Operand) {s : ByteArray} (ho : o.op = .buildSlice 50 1 #[(0, x)]) (hx : a.eval x = .string s) (h : K (a.put o.dst (.slice (some ⟨w.heap.size, 0, none⟩) 1 1)) (w.alloc (.cells #[.string s] 9))) : o.wp Try.prog a w K Q := by
  have hr : (Instr.buildSlice 50 1 #[(0, .string s)]).run Try.prog w = .ok (.slice (some ⟨w.heap.size, 0, none⟩) 1 1) (w.alloc (.cells #[.string s] 9)) := by kernel_rfl
  unfold Oper.wp execOp
  simp only [ho, List.map_toArray, List.map_cons, List.map_nil, hx, Sem.run_bind, hr, Result.andThen_ok, Sem.run_pure]
  exact h
/-- append of one text to a row of them. -/
theorem wp_appendT (s y : Operand) (ho : o.op = .call { callee := .builtin .append, args := #[s, y], argTypes := #[50, 50] }) (B : Nat) (A : Option Addr) (n c q : Nat) (xs : List ByteArray) (t : ByteArray) (hs : a.eval s = .slice A n c) (hy : a.eval y = .slice (some ⟨q, 0, none⟩) 1 1)
    (h63 : n ≤ 8796093021952) (hown : w.ownsRow B 9 1 (.slice A n c) n (strs xs)) (hq : Holds w q 9 [.string t]) (hB : B ≤ w.heap.size)
    (hK : ∀ A2 c2 w', w'.ownsRow B 9 1 (.slice A2 (n + 1) c2) (n + 1) (strs (xs ++ [t])) → w.grownBy w' (Value.slice A n c).ownBlock → Fresh w (Value.slice A n c).ownBlock (Value.slice A2 (n + 1) c2).ownBlock → K (a.put o.dst (.slice A2 (n + 1) c2)) w') : o.wp Try.prog a w K Q := by
  obtain ⟨i0, hi0, hz0, hz1, hz2⟩ := info_parts Try.infoTextF
  have hcl : ∀ j u, (strs [t])[j]? = some u → w.cell? ((⟨q, 0, none⟩ : Addr).add j) = some u := fun j u hj => by
    rw [show (⟨q, 0, none⟩ : Addr).add j = ⟨q, j, none⟩ from by unfold Addr.add; split <;> simp_all, hq.cell]
    exact hj
  rw [← hz1] at hown
  obtain ⟨A2, c2, w', hr, hrow, hg, hf⟩ := run_append_fresh (P := Try.prog) w B 50 o.type 9 i0 _ Try.underlying50 hi0 hz0 (by rw [hz1]; rfl) (by rw [hz1]; decide) A n c (strs xs) hown ⟨q, 0, none⟩ 1 1 (strs [t]) (by decide) (by rw [hz1]; rfl) hcl (strs_one _) (by omega) (by rw [hz2]; omega) hB
  rw [hz1] at hrow
  unfold Oper.wp execOp
  simp only [ho, resolve, invoke, builtin, Sem.run_bind, Sem.run_pure, Result.andThen_ok, List.map_toArray, List.map_cons, List.map_nil, hs, hy, hr]
  exact hK _ _ _ (by rw [strs_append]; exact hrow) hg hf
end
theorem results_ccc {P : Program} {fn : Func} {p q s : Tmp} {t1 t2 t3 : TypeId} (h : fn.results = #[.cell p t1, .cell q t2, .cell s t3]) (tmps : Array Value) (w : World) (a b c : Nat) (x y z : Value)
    (hp : tmps.getD p undef = .pointer (some ⟨a, 0, none⟩)) (hq : tmps.getD q undef = .pointer (some ⟨b, 0, none⟩)) (hs : tmps.getD s undef = .pointer (some ⟨c, 0, none⟩))
    (h1 : (loadVar t1 ⟨a, 0, none⟩).run P w = .ok x w) (h2 : (loadVar t2 ⟨b, 0, none⟩).run P w = .ok y w) (h3 : (loadVar t3 ⟨c, 0, none⟩).run P w = .ok z w) : (results fn tmps).run P w = .ok (.tuple #[x, y, z]) w := by
  have hp' : tmps[p]?.getD undef = .pointer (some ⟨a, 0, none⟩) := by simpa using hp
  have hq' : tmps[q]?.getD undef = .pointer (some ⟨b, 0, none⟩) := by simpa using hq
  have hs' : tmps[s]?.getD undef = .pointer (some ⟨c, 0, none⟩) := by simpa using hs
  simp [results, h, hp', hq', hs', asAddr, h1, h2, h3]

theorem load_ts {V : World} {k : Nat} {v : Value} (h : Holds V k 50 [v]) : (loadVar 50 ⟨k, 0, none⟩).run Try.prog V = .ok v V := by
  have c := h.cO 0 _ rfl
  go_simp
theorem load_hs {V : World} {k : Nat} {v : Value} (h : Holds V k 62 [v]) : (loadVar 62 ⟨k, 0, none⟩).run Try.prog V = .ok v V := by
  have c := h.cO 0 _ rfl
  go_simp
theorem load_en {V : World} {k : Nat} {v : Value} (h : Holds V k 24 [v]) : (loadVar 24 ⟨k, 0, none⟩).run Try.prog V = .ok v V := by
  have c := h.cO 0 _ rfl
  go_simp
theorem Holds.putD {V : World} {k D : Nat} {t : TypeId} {cs : List Value} {ob : Obj} (h : Holds V k t cs) (hne : k ≠ D) : Holds (V.putObj D ob) k t cs := (World.putObj_heap_other (by omega)).trans h
theorem rown_low {w : World} {B B' n size : Nat} {e : TypeId} {v : Value} {xs : List Value} (h : w.ownsRow B e size v n xs) (hB : B' ≤ B) : w.ownsRow B' e size v n xs := by
  refine ⟨h.1, ?_⟩
  rcases h.2 with hn | ⟨q, cap, cur, hv, hb, rest⟩
  · exact .inl hn
  · exact .inr ⟨q, cap, cur, hv, Nat.le_trans hB hb, rest⟩
theorem below_putD {w V : World} {g D : Nat} {ob : Obj} (h : Below g w V) (hD : g ≤ D) : Below g w (V.putObj D ob) := ⟨h.os, h.tape, h.output, by rw [World.putObj_size]; exact h.size, fun k hk => (World.putObj_heap_other (by omega)).trans (h.block k hk)⟩
/-- What below answers. -/
def BelowPost (w : World) (T : Option (List ByteArray × List (List UInt8))) (e : Ending) (w' : World) : Prop := match T with
  | none => e = .returned (.tuple #[.slice none 0 0, .slice none 0 0, .int .i64 1200])
  | some (acc, want) => if want = [] then ∃ A' c', e = .returned (.tuple #[.slice A' acc.length c', .slice none 0 0, .int .i64 0]) ∧ w'.ownsRow w.heap.size 9 1 (.slice A' acc.length c') acc.length (strs acc)
    else ∃ A' m c', e = .returned (.tuple #[.slice none 0 0, .slice A' m c', .int .i64 1201]) ∧ w'.ownsRow 0 33 32 (.slice A' m c') m (hashCells (unlikeH want)) ∧ ∀ k, (Value.slice A' m c').ownBlock = some k → w.heap.size ≤ k
set_option maxRecDepth 100000 in
set_option maxHeartbeats 1000000 in
theorem below_any (r B : Nat) (M : Option Nat) (A2 : Option Addr) (c2 : Nat) (ks : List (List UInt8 × ByteArray)) (hks : ∀ p ∈ ks, p.2.size ≤ 65536) (hkn : ks.length ≤ 8796093021952) (fm cc : Nat) (heg : ∀ args w, (callFunc fm args).run Try.prog w = .ok (.enter fm args) w) (may : Nat → ByteArray → Bool)
    (A : Option Addr) (n c b : Nat) (xs : List ByteArray) (hlen : xs.length = n) (hA : 0 < n → A = some ⟨b, 0, none⟩) (hn : n ≤ 100000) (h32 : ∀ x ∈ xs, x.size % 32 = 0 ∧ x.size ≤ 100000) (hN : (pcsL xs).length ≤ 5000) (w : World) (h2 : 0 < n → TxtsAt w b xs) (hsh : HkRow w r B M A2 c2 ks)
    (hmay : ∀ V (i : Nat) (x : ByteArray), Below w.heap.size w V → i < (pcsL xs).length → x.size ≤ 65536 → Calls Try.prog fm #[.int .i64 (i : Int), .string x, .pointer (some ⟨cc, 0, none⟩)] V fun e V' => e = .returned (.bool (may i x)) ∧ Below V.heap.size V V') (hins : ∀ i x, may i x = true → InsOk x) :
    Calls Try.prog 56 #[.slice A n c, .pointer (some ⟨r, 0, none⟩), .func (.func fm) #[] #[.pointer (some ⟨cc, 0, none⟩)]] w fun e w' => BelowPost w (lvl (ksGet ks) may 0 (pcsL xs) [] []) e w' ∧ Below w.heap.size w w' := by
  have hfr : (#[.slice A n c, .pointer (some ⟨r, 0, none⟩), .func (.func fm) #[] #[.pointer (some ⟨cc, 0, none⟩)]] ++ Array.replicate (Try.f56.ntmps - (#[.slice A n c, .pointer (some ⟨r, 0, none⟩), .func (.func fm) #[] #[.pointer (some ⟨cc, 0, none⟩)]] : Array Value).size) undef : Array Value) = #[.slice A n c, .pointer (some ⟨r, 0, none⟩), .func (.func fm) #[] #[.pointer (some ⟨cc, 0, none⟩)], undef, undef, undef, undef, undef, undef, undef, undef, undef, undef, undef, undef, undef, undef, undef, undef, undef, undef, undef, undef, undef, undef, undef, undef, undef, undef, undef, undef, undef, undef, undef, undef, undef, undef, undef, undef, undef, undef, undef, undef, undef, undef, undef, undef, undef, undef, undef, undef] := by kernel_rfl
  obtain ⟨T, hT⟩ : ∃ T, lvl (ksGet ks) may 0 (pcsL xs) [] [] = T := ⟨_, rfl⟩
  rw [hT]
  have hT' := hid hT
  obtain ⟨g, hg⟩ : ∃ g, w.heap.size = g := ⟨_, rfl⟩
  have hgw := hid hg
  obtain ⟨mv, hmv⟩ : ∃ mv, Value.func (.func fm) #[] #[.pointer (some ⟨cc, 0, none⟩)] = mv := ⟨_, rfl⟩
  have hks' := hid hks
  have hkn' := hid hkn
  have hmay' := hid hmay
  have hins' := hid hins
  have hsh' := hid hsh
  have h2' := hid h2
  have hA' := hid hA
  have hn' := hid hn
  have hl' := hid hlen
  have h32' := hid h32
  have hN' := hid hN
  have heg' := hid heg
  have hmv' := hid hmv
  clear hg hT hks hkn hmay hins hsh h2 hA hn hlen h32 hN heg
  refine callsIn_wide.1 (callsIn_of_wp_marks (n := 12) Try.func56 rfl trivial ?_ rfl)
  rw [hfr, hmv'.out]
  refine wpIn_wide.2 ?_
  clear hfr hmv
  go_wp2_with fail
  have hal := allocs_any [(#[.pointer (some ⟨r, 0, none⟩)], 102), (#[mv], 106), (#[.slice none 0 0], 50), (#[.slice none 0 0], 62), (#[.int .i64 0], 24), (#[.slice none 0 0], 50), (#[.slice none 0 0], 62), (#[.int .i64 0], 3)] w
  obtain ⟨W8, hW8⟩ : ∃ V, allocs [(#[.pointer (some ⟨r, 0, none⟩)], 102), (#[mv], 106), (#[.slice none 0 0], 50), (#[.slice none 0 0], 62), (#[.int .i64 0], 24), (#[.slice none 0 0], 50), (#[.slice none 0 0], 62), (#[.int .i64 0], 3)] w = V := ⟨_, rfl⟩
  rw [hW8, hgw.out] at hal
  obtain ⟨hs8, hb8, hc8⟩ := hal
  refine (show Calls Try.prog 74 #[.slice A n c] (allocs [(#[.pointer (some ⟨r, 0, none⟩)], 102), (#[mv], 106), (#[.slice none 0 0], 50), (#[.slice none 0 0], 62), (#[.int .i64 0], 24), (#[.slice none 0 0], 50), (#[.slice none 0 0], 62), (#[.int .i64 0], 3)] w) _ from ?_)
  rw [hW8]
  clear hW8
  simp only [hgw.out, Nat.add_assoc, Nat.reduceAdd]
  refine (hashes_any A n c W8).mono ?_
  rintro e W9 ⟨rfl, hW9⟩
  have hb9 : Below W8.heap.size W8 W9 := by rw [hW9]; exact (Below.refl _ _).alloc (Nat.le_refl _) _
  have hs9 : W9.heap.size = g + 9 := by rw [hW9, World.size_alloc, hs8]; rfl
  have hH9 : Holds W9 (g + 8) 50 [.slice A n c] := by
    have := Holds.new W8 50 #[.slice A n c]
    rw [hs8] at this
    rw [hW9]
    exact this
  have hcc : ∀ i o, ([(#[.pointer (some ⟨r, 0, none⟩)], 102), (#[mv], 106), (#[.slice none 0 0], 50), (#[.slice none 0 0], 62), (#[.int .i64 0], 24), (#[.slice none 0 0], 50), (#[.slice none 0 0], 62), (#[.int .i64 0], 3)])[i]? = some o → Holds W9 (g + i) o.2 o.1.toList := fun i o h => (hc8 i o h).below hb9 (hc8 i o h).lt
  have hbw : Below g w W9 := hb8.trans (hb9.mono (by rw [hs8]; omega))
  have h0 := hid (show BeSt w g r mv 0 [] [] none 0 none 0 W9 from ⟨hcc 0 _ rfl, hcc 1 _ rfl, hcc 2 _ rfl, hcc 3 _ rfl, hcc 4 _ rfl, hcc 5 _ rfl, hcc 6 _ rfl, hcc 7 _ rfl, World.ownsRow_nil _ _ _ _, World.ownsRow_nil _ _ _ _, hbw⟩)
  have hseq := hid (hashes_all 9 (fun q => g + 2 ≤ q ∧ q < g + 8) (g + 8) b A n c xs hl'.out hA'.out hn'.out h32'.out (fun h => by omega) (fun h hx => by have := (h2'.out h).lt; have := hgw.out; omega) W9 (fun k hk => by omega) hH9 (fun h => (h2'.out h).on (hbw.block b (by have := (h2'.out h).lt; have := hgw.out; omega))))
  have hs9' := hid hs9
  have hp32 := hid (pcsL_len (fun x hx => (h32'.out x hx).1))
  rw [hs8]
  simp only [List.length_cons, List.length_nil, Nat.reduceAdd]
  clear hs8 hb8 hc8 hW9 hb9 hs9 hH9 hcc hbw
  go_wp2_with fail
  refine (wpIn_wide (n := 12)).1 ?_
  refine wpIn_range_ownS rfl (by omega) (gf := 89) (lb := #[.pointer (some ⟨g + 8, 0, none⟩)]) rfl trivial (enters_of Try.func89 (by kernel_rfl) rfl)
    hseq.out (Below.refl _ _) (fun _ => rfl) (fun r h => h.elim) KeepX.trans (fun q W l o o' _ hl ho => KeepX.put W l o o' hl ho)
    (fun pre o V => ∃ acc want Ai ci Aw cw, o = beOwn acc want Ai ci Aw cw ∧ (∀ h ∈ want, h.length = 32) ∧ lvl (ksGet ks) may pre.length ((pcsL xs).drop pre.length) acc want = T ∧ acc.length + want.length ≤ pre.length ∧ BeSt w g r mv pre.length acc want Ai ci Aw cw V)
    (fun s o A B row ⟨acc, want, Ai, ci, Aw, cw, e, hw3, hl, hz, h⟩ hg hr => ⟨acc, want, Ai, ci, Aw, cw, e, hw3, hl, hz, h.grown hg (fun q e2 => (hr q e2).elim (fun h3 => ⟨by have := hs9'.out; omega, by rw [← e]; exact h3.2⟩) False.elim)⟩)
    (fun s o A k ⟨acc, want, Ai, ci, Aw, cw, e, hw3, hl, hz, h⟩ hk => by
      rw [e] at hk
      have := h.own hk
      have := hs9'.out
      omega)
    ⟨[], [], none, 0, none, 0, funext fun q => propext ⟨False.elim, fun h => h.elim (fun e => nomatch e) (fun e => nomatch e)⟩, (fun _ h => nomatch h), hT'.out, Nat.le_refl _, h0.out⟩
    (fun V => T = none ∧ Below g w V ∧ Holds V (g + 2) 50 [.slice none 0 0] ∧ Holds V (g + 3) 62 [.slice none 0 0] ∧ Holds V (g + 4) 24 [.int .i64 1200])
    (fun A B row ⟨e, h1, h2, h3, h4⟩ hg hr => by
      have hz := hs9'.out
      have hne : ∀ k, k < g + 9 → some k ≠ row := fun k hk e => (hr k e.symm).elim (fun h => by omega) False.elim
      exact ⟨e, ⟨hg.os.trans h1.os, hg.tape.trans h1.tape, hg.output.trans h1.output, Nat.le_trans h1.size hg.size, fun k hk => (hg.block k (by have := h2.lt; omega) (hne k (by omega))).trans (h1.block k hk)⟩, h2.grown hg (hne _ (by omega)), h3.grown hg (hne _ (by omega)), h4.grown hg (hne _ (by omega))⟩)
    (fun x a' W => ∃ q, a' = { tmps := #[.slice A n c, .pointer (some ⟨r, 0, none⟩), mv, undef, .pointer (some ⟨g, 0, none⟩), .pointer (some ⟨g + 1, 0, none⟩), .pointer (some ⟨g + 2, 0, none⟩), .pointer (some ⟨g + 3, 0, none⟩), .pointer (some ⟨g + 4, 0, none⟩), .pointer (some ⟨g + 5, 0, none⟩), .pointer (some ⟨g + 6, 0, none⟩), .pointer (some ⟨g + 7, 0, none⟩), .pointer (some ⟨q, 0, none⟩), undef, undef, .slice A n c, .func (.func 89) #[] #[.pointer (some ⟨g + 8, 0, none⟩)], .agg (byteCells ((pcsL xs).getD x z0)).toArray, undef, undef, undef, undef, undef, undef, undef, undef, undef, undef, undef, undef, undef, undef, undef, undef, undef, undef, undef, undef, undef, undef, undef, undef, undef, undef, undef, undef, undef, undef, undef, undef, undef], defers := [] } ∧ Holds W q 33 (byteCells ((pcsL xs).getD x z0)))
    (fun x a' A B row ⟨q, h1, h2⟩ hg hr => ⟨q, h1, holds_kept h2 hg (fun r e => (hr r e).2)⟩) ?assign ?body ?done ?stop
  case assign =>
    rintro l pre x o V K hz ⟨acc, want, Ai, ci, Aw, cw, e, hw3, hl, hzz, h⟩ hK
    obtain ⟨s, hs⟩ : ∃ s, (pcsL xs).getD x z0 = s := ⟨_, rfl⟩
    have hx32 : s.length = 32 := by
      rw [← hs, List.getD_eq_getElem?_getD]
      cases h : (pcsL xs)[x]? with
      | none => rfl
      | some y => exact hp32.out y (List.mem_of_getElem? h)
    rw [hs]
    have hCx := hid (hash_cells s hx32)
    gi_wp2_with (first
      | ((with_reducible refine at_slotIn (some 12) ?_); refine wpListIn_run rfl (fun c e => by cases e) rfl (.pointer (some ⟨V.heap.size, 0, none⟩)) (V.alloc (.cells z32 33)) (by kernel_rfl) ?_)
      | ((with_reducible refine at_slotIn none ?_); refine wpListIn_store_mid rfl 33 (.tmp 12) (.tmp 17) rfl V.heap.size 0 (byteCells s).toArray (by kernel_rfl) (by kernel_rfl) (by exact hCx.out.there V) (by exact hCx.out.size) (by exact hCx.out.one) ?_))
    obtain ⟨W', hW'⟩ : ∃ W', (V.alloc (.cells z32 33)).setCells V.heap.size 0 (byteCells s) = W' := ⟨_, rfl⟩
    obtain ⟨hH', hb'⟩ := hCx.out.new hW'
    rw [hW']
    exact hK _ _ (KeepsFrom.belowF hb') (KeepX.below hb') ⟨acc, want, Ai, ci, Aw, cw, e, hw3, hl, hzz, h.on hb'⟩ ⟨V.heap.size, by rw [hs], by rw [hs]; exact hH'⟩
  case body =>
    rintro l pre x o a' V hl hsz ⟨r0, hr0⟩ ⟨acc, want, Ai, ci, Aw, cw, rfl, hw3, hlv, hzz, hS⟩ ⟨q, rfl, hq⟩ ⟨rfl, hlt⟩
    have hw32' := hid hw3
    clear hw3
    rw [List.length_range] at hlv hzz hS
    obtain ⟨s, hs⟩ : ∃ s, (pcsL xs).getD x z0 = s := ⟨_, rfl⟩
    have hsx : (pcsL xs)[x]? = some s := by
      rw [← hs, List.getD_eq_getElem?_getD, List.getElem?_eq_getElem hlt]
      rfl
    have hdr : (pcsL xs).drop x = s :: (pcsL xs).drop (x + 1) := by
      rw [List.drop_eq_getElem_cons hlt]
      rw [List.getElem?_eq_getElem hlt] at hsx
      rw [Option.some.inj hsx]
    rw [hdr] at hlv
    have hs32 : s.length = 32 := hp32.out s (List.mem_of_getElem? hsx)
    rw [hs] at hq ⊢
    have hCx := hid (hash_cells s hs32)
    have hshV := hid (hsh'.out.on (by rw [hgw.out]; exact hS.bel))
    have hGet := hid (skGet_any r B M A2 c2 ks s hs32 hkn'.out V hshV.out)
    have hS' := hid hS
    have hlv' := hid hlv
    have hlt' := hid hlt
    have hsz' := hid hsz
    have hq' := hid hq
    have hzz' := hid hzz
    have cf := hS.fc.cO 0 _ rfl
    clear hS hlv hlt hsz hq hzz hsx hdr hs32 hs hr0 hl
    gi_wp2_with (first
      | ((with_reducible refine at_slotIn (some 20) ?_); refine wpListIn_load_mid rfl 33 (.tmp 12) rfl q 0 rfl (byteCells s) _ (by exact h_all hq'.out) Try.underlying33 rfl (by exact hCx.out.size') ?_)
      | fail)
    refine ⟨trivial, CallsIn.inRound l (callsIn_wide.2 (hGet.out.mono ?_))⟩
    rintro e V1 ⟨hor, hb1⟩
    have hS1 := hid (hS'.out.on hb1)
    have hq1 := hid (hq'.out.below hb1 hq'.out.lt)
    have hb1' := hid hb1
    clear hb1 cf hS' hq' hGet hshV
    rcases hor with ⟨y, hy, rfl⟩ | ⟨hno, rfl⟩
    · have hget := hid (ksGet_some hsh'.out.uniq hy)
      have hys := hid (hks'.out _ hy)
      have hM := hid (fun V2 (h : Below w.heap.size w V2) => hmay'.out V2 x y h hlt'.out hys.out)
      have cm := hS1.out.mc.cO 0 _ rfl
      have cn := hS1.out.nc.cO 0 _ rfl
      rw [← hmv'.out] at cm
      have he := heg'.out
      have u2 := IntWalk.i64_in ((x : Int) + 1) (by have := hlt'.out; have := hN'.out; omega)
      clear hy
      gi_wp2_with fail
      refine ⟨trivial, CallsIn.inRound l (callsIn_wide.2 ((hM.out V1 (by rw [hgw.out]; exact hS1.out.bel)).mono ?_))⟩
      rintro e V2 ⟨hmr, hb2⟩
      have hS2 := hid (hS1.out.on hb2)
      have hbd := hid (hb1'.out.trans (hb2.mono hb1'.out.size))
      clear hb2 cm cn he hM
      by_cases hm : may x y = true
      · have hm' := hid hm
        have hok := hid (hins'.out _ _ hm)
        rw [hm] at hmr
        subst hmr
        clear hm
        gi_wp2_with fail
        refine wpIn_region_any mixedB ?_
        rw [show ({ V2 with drawn := V2.drawn + 1 } : World) = V2.drew from rfl]
        have hS4 := hid (hS2.out.on (show Below V2.heap.size V2 V2.drew from (Below.refl _ V2).drew))
        have hbd := hid (hbd.out.trans ((show Below V2.heap.size V2 V2.drew from (Below.refl _ V2).drew).mono hbd.out.size))
        generalize V2.drew = V4 at *
        refine wpAnyIn_all (rs := [0, 1]) (by kernel_rfl) (by simp) (List.forall_mem_cons.2 ⟨?_, List.forall_mem_cons.2 ⟨?_, fun _ h => nomatch h⟩⟩)
        · refine pureIn (.slice Ai acc.length ci) rfl rfl (fun c e => by cases e) (by kernel_rfl) (by have c5 := (hS4.out).ic.cO 0 _ rfl; go_simp) ?_; simp only [ly, Act.put]
          refine wpAnyIn_all (rs := [1]) (by kernel_rfl) (by simp) (List.forall_mem_cons.2 ⟨?_, fun _ h => nomatch h⟩)
          refine pureIn (.string y) rfl rfl (fun c e => by cases e) (by kernel_rfl) (by go_simp) ?_; simp only [ly, Act.put]
          refine wpAnyIn_all (rs := [2]) (by kernel_rfl) (by simp) (List.forall_mem_cons.2 ⟨?_, fun _ h => nomatch h⟩)
          refine wpOpIn_step rfl fun K hK => ?_
          rw [if_pos (by kernel_rfl)]
          refine oper_round (fun c e => by cases e) ?_
          simp only [ly1, ly2, ly3]
          go_simp
          refine (inside_any hok.out V4).mono ?_
          rintro e V9 ⟨rfl, hw9⟩
          obtain rfl := hw9.symm
          refine hK _ _ ?_
          clear hK K
          refine wpAnyIn_all (rs := [3]) (by kernel_rfl) (by simp) (List.forall_mem_cons.2 ⟨?_, fun _ h => nomatch h⟩)
          refine wpOpIn_step rfl fun K hK => ?_
          rw [if_pos (by kernel_rfl)]
          refine oper_round (fun c e => by cases e) ?_
          simp only [ly1, ly2, ly3]
          obtain ⟨V5, hV5⟩ : ∃ V, V4.alloc (.cells #[.string (insideT y)] 9) = V := ⟨_, rfl⟩
          refine wp_buildT (.tmp 26) rfl rfl ?_
          have hb5 : Below V4.heap.size V4 V5 := by rw [← hV5]; exact (Below.refl _ _).alloc (Nat.le_refl _) _
          have hn5 := hid (show Holds V5 V4.heap.size 9 [.string (insideT y)] from by rw [← hV5]; exact Holds.new V4 9 #[.string (insideT y)])
          have hb5' := hid hb5
          have hS5 := hid (hS4.out.on hb5)
          rw [hV5]
          refine hK _ _ ?_
          clear hK K hb5 hV5
          refine wpAnyIn_all (rs := [4]) (by kernel_rfl) (by simp) (List.forall_mem_cons.2 ⟨?_, fun _ h => nomatch h⟩)
          refine wpOpIn_step rfl fun K hK => ?_
          rw [if_pos (by kernel_rfl)]
          refine oper_round (fun c e => by cases e) ?_
          simp only [ly1, ly2, ly3]
          refine wp_appendT (.tmp 24) (.tmp 27) rfl (g + 11) Ai acc.length ci V4.heap.size acc (insideT y) rfl rfl (by have := hzz'.out; have := hlt'.out; have := hN'.out; omega) hS5.out.ri hn5.out (by have := hbd.out.size; have := hsz'.out; have := hs9'.out; have := hb5'.out.size; omega) ?_
          intro A3 c3 V6 hrow hg6 hF6
          refine hK _ _ ?_
          clear hK K
          refine wpAnyIn_all (rs := [5]) (by kernel_rfl) (by simp) (List.forall_mem_cons.2 ⟨?_, fun _ h => nomatch h⟩)
          refine wpOpIn_step rfl fun K hK => ?_
          rw [if_pos (by kernel_rfl)]
          refine oper_round (fun c e => by cases e) ?_
          simp only [ly1, ly2, ly3]
          have hne5 := fun k (hk : k < g + 11) => show some k ≠ (Value.slice Ai acc.length ci).ownBlock from fun e => by have := (hS5.out.ri.lt k e.symm).1; omega
          have h5 := hS5.out.ic.grown hg6 (hne5 _ (by omega))
          have h7 := (hS5.out.nc.grown hg6 (hne5 _ (by omega))).far ⟨g + 5, 0, none⟩ (by show g + 7 ≠ g + 5; omega) (.slice A3 (acc.length + 1) c3)
          have c5 := h5.cO 0 _ rfl
          have f5 := h5.frozen 0
          go_simp
          refine hK _ _ ?_
          clear hK K c5 f5 h5
          have c7 := h7.cO 0 _ rfl
          have f7 := h7.frozen 0
          refine wpAnyIn_done (by kernel_rfl) ?_ _
          have hfin := hid (be_in hS5.out hg6 hrow hF6 rfl rfl)
          clear hrow hg6 hF6 h7
          gi_wp2_with fail
          obtain ⟨e1, e2, e3⟩ := hfin.out
          have e4 := BeTurn.trans (BeTurn.of_below (hbd.out.trans (hb5'.out.mono hbd.out.size))) e2
          refine ⟨by rw [hs9'.out]; exact e4.keepsO, e4.keepX, _, fun k hk => (e3 k hk).imp id (fun h => Nat.le_trans (hbd.out.trans (hb5'.out.mono hbd.out.size)).size h), acc ++ [insideT y], want, A3, c3, Aw, cw, rfl, hw32'.out, ?_, ?_, e1⟩
          · rw [← lvl_in hget.out hm'.out]; exact hlv'.out
          · rw [List.length_append]
            have := hzz'.out
            simp
            omega
        · refine pureIn (.string y) rfl rfl (fun c e => by cases e) (by kernel_rfl) (by go_simp) ?_; simp only [ly, Act.put]
          refine wpAnyIn_all (rs := [0, 2]) (by kernel_rfl) (by simp) (List.forall_mem_cons.2 ⟨?_, List.forall_mem_cons.2 ⟨?_, fun _ h => nomatch h⟩⟩)
          · refine pureIn (.slice Ai acc.length ci) rfl rfl (fun c e => by cases e) (by kernel_rfl) (by have c5 := (hS4.out).ic.cO 0 _ rfl; go_simp) ?_; simp only [ly, Act.put]
            refine wpAnyIn_all (rs := [2]) (by kernel_rfl) (by simp) (List.forall_mem_cons.2 ⟨?_, fun _ h => nomatch h⟩)
            refine wpOpIn_step rfl fun K hK => ?_
            rw [if_pos (by kernel_rfl)]
            refine oper_round (fun c e => by cases e) ?_
            simp only [ly1, ly2, ly3]
            go_simp
            refine (inside_any hok.out V4).mono ?_
            rintro e V9 ⟨rfl, hw9⟩
            obtain rfl := hw9.symm
            refine hK _ _ ?_
            clear hK K
            refine wpAnyIn_all (rs := [3]) (by kernel_rfl) (by simp) (List.forall_mem_cons.2 ⟨?_, fun _ h => nomatch h⟩)
            refine wpOpIn_step rfl fun K hK => ?_
            rw [if_pos (by kernel_rfl)]
            refine oper_round (fun c e => by cases e) ?_
            simp only [ly1, ly2, ly3]
            obtain ⟨V5, hV5⟩ : ∃ V, V4.alloc (.cells #[.string (insideT y)] 9) = V := ⟨_, rfl⟩
            refine wp_buildT (.tmp 26) rfl rfl ?_
            have hb5 : Below V4.heap.size V4 V5 := by rw [← hV5]; exact (Below.refl _ _).alloc (Nat.le_refl _) _
            have hn5 := hid (show Holds V5 V4.heap.size 9 [.string (insideT y)] from by rw [← hV5]; exact Holds.new V4 9 #[.string (insideT y)])
            have hb5' := hid hb5
            have hS5 := hid (hS4.out.on hb5)
            rw [hV5]
            refine hK _ _ ?_
            clear hK K hb5 hV5
            refine wpAnyIn_all (rs := [4]) (by kernel_rfl) (by simp) (List.forall_mem_cons.2 ⟨?_, fun _ h => nomatch h⟩)
            refine wpOpIn_step rfl fun K hK => ?_
            rw [if_pos (by kernel_rfl)]
            refine oper_round (fun c e => by cases e) ?_
            simp only [ly1, ly2, ly3]
            refine wp_appendT (.tmp 24) (.tmp 27) rfl (g + 11) Ai acc.length ci V4.heap.size acc (insideT y) rfl rfl (by have := hzz'.out; have := hlt'.out; have := hN'.out; omega) hS5.out.ri hn5.out (by have := hbd.out.size; have := hsz'.out; have := hs9'.out; have := hb5'.out.size; omega) ?_
            intro A3 c3 V6 hrow hg6 hF6
            refine hK _ _ ?_
            clear hK K
            refine wpAnyIn_all (rs := [5]) (by kernel_rfl) (by simp) (List.forall_mem_cons.2 ⟨?_, fun _ h => nomatch h⟩)
            refine wpOpIn_step rfl fun K hK => ?_
            rw [if_pos (by kernel_rfl)]
            refine oper_round (fun c e => by cases e) ?_
            simp only [ly1, ly2, ly3]
            have hne5 := fun k (hk : k < g + 11) => show some k ≠ (Value.slice Ai acc.length ci).ownBlock from fun e => by have := (hS5.out.ri.lt k e.symm).1; omega
            have h5 := hS5.out.ic.grown hg6 (hne5 _ (by omega))
            have h7 := (hS5.out.nc.grown hg6 (hne5 _ (by omega))).far ⟨g + 5, 0, none⟩ (by show g + 7 ≠ g + 5; omega) (.slice A3 (acc.length + 1) c3)
            have c5 := h5.cO 0 _ rfl
            have f5 := h5.frozen 0
            go_simp
            refine hK _ _ ?_
            clear hK K c5 f5 h5
            have c7 := h7.cO 0 _ rfl
            have f7 := h7.frozen 0
            refine wpAnyIn_done (by kernel_rfl) ?_ _
            have hfin := hid (be_in hS5.out hg6 hrow hF6 rfl rfl)
            clear hrow hg6 hF6 h7
            gi_wp2_with fail
            obtain ⟨e1, e2, e3⟩ := hfin.out
            have e4 := BeTurn.trans (BeTurn.of_below (hbd.out.trans (hb5'.out.mono hbd.out.size))) e2
            refine ⟨by rw [hs9'.out]; exact e4.keepsO, e4.keepX, _, fun k hk => (e3 k hk).imp id (fun h => Nat.le_trans (hbd.out.trans (hb5'.out.mono hbd.out.size)).size h), acc ++ [insideT y], want, A3, c3, Aw, cw, rfl, hw32'.out, ?_, ?_, e1⟩
            · rw [← lvl_in hget.out hm'.out]; exact hlv'.out
            · rw [List.length_append]
              have := hzz'.out
              simp
              omega
          · refine wpOpIn_step rfl fun K hK => ?_
            rw [if_pos (by kernel_rfl)]
            refine oper_round (fun c e => by cases e) ?_
            simp only [ly1, ly2, ly3]
            go_simp
            refine (inside_any hok.out V4).mono ?_
            rintro e V9 ⟨rfl, hw9⟩
            obtain rfl := hw9.symm
            refine hK _ _ ?_
            clear hK K
            refine wpAnyIn_all (rs := [0, 3]) (by kernel_rfl) (by simp) (List.forall_mem_cons.2 ⟨?_, List.forall_mem_cons.2 ⟨?_, fun _ h => nomatch h⟩⟩)
            · refine pureIn (.slice Ai acc.length ci) rfl rfl (fun c e => by cases e) (by kernel_rfl) (by have c5 := (hS4.out).ic.cO 0 _ rfl; go_simp) ?_; simp only [ly, Act.put]
              refine wpAnyIn_all (rs := [3]) (by kernel_rfl) (by simp) (List.forall_mem_cons.2 ⟨?_, fun _ h => nomatch h⟩)
              refine wpOpIn_step rfl fun K hK => ?_
              rw [if_pos (by kernel_rfl)]
              refine oper_round (fun c e => by cases e) ?_
              simp only [ly1, ly2, ly3]
              obtain ⟨V5, hV5⟩ : ∃ V, V4.alloc (.cells #[.string (insideT y)] 9) = V := ⟨_, rfl⟩
              refine wp_buildT (.tmp 26) rfl rfl ?_
              have hb5 : Below V4.heap.size V4 V5 := by rw [← hV5]; exact (Below.refl _ _).alloc (Nat.le_refl _) _
              have hn5 := hid (show Holds V5 V4.heap.size 9 [.string (insideT y)] from by rw [← hV5]; exact Holds.new V4 9 #[.string (insideT y)])
              have hb5' := hid hb5
              have hS5 := hid (hS4.out.on hb5)
              rw [hV5]
              refine hK _ _ ?_
              clear hK K hb5 hV5
              refine wpAnyIn_all (rs := [4]) (by kernel_rfl) (by simp) (List.forall_mem_cons.2 ⟨?_, fun _ h => nomatch h⟩)
              refine wpOpIn_step rfl fun K hK => ?_
              rw [if_pos (by kernel_rfl)]
              refine oper_round (fun c e => by cases e) ?_
              simp only [ly1, ly2, ly3]
              refine wp_appendT (.tmp 24) (.tmp 27) rfl (g + 11) Ai acc.length ci V4.heap.size acc (insideT y) rfl rfl (by have := hzz'.out; have := hlt'.out; have := hN'.out; omega) hS5.out.ri hn5.out (by have := hbd.out.size; have := hsz'.out; have := hs9'.out; have := hb5'.out.size; omega) ?_
              intro A3 c3 V6 hrow hg6 hF6
              refine hK _ _ ?_
              clear hK K
              refine wpAnyIn_all (rs := [5]) (by kernel_rfl) (by simp) (List.forall_mem_cons.2 ⟨?_, fun _ h => nomatch h⟩)
              refine wpOpIn_step rfl fun K hK => ?_
              rw [if_pos (by kernel_rfl)]
              refine oper_round (fun c e => by cases e) ?_
              simp only [ly1, ly2, ly3]
              have hne5 := fun k (hk : k < g + 11) => show some k ≠ (Value.slice Ai acc.length ci).ownBlock from fun e => by have := (hS5.out.ri.lt k e.symm).1; omega
              have h5 := hS5.out.ic.grown hg6 (hne5 _ (by omega))
              have h7 := (hS5.out.nc.grown hg6 (hne5 _ (by omega))).far ⟨g + 5, 0, none⟩ (by show g + 7 ≠ g + 5; omega) (.slice A3 (acc.length + 1) c3)
              have c5 := h5.cO 0 _ rfl
              have f5 := h5.frozen 0
              go_simp
              refine hK _ _ ?_
              clear hK K c5 f5 h5
              have c7 := h7.cO 0 _ rfl
              have f7 := h7.frozen 0
              refine wpAnyIn_done (by kernel_rfl) ?_ _
              have hfin := hid (be_in hS5.out hg6 hrow hF6 rfl rfl)
              clear hrow hg6 hF6 h7
              gi_wp2_with fail
              obtain ⟨e1, e2, e3⟩ := hfin.out
              have e4 := BeTurn.trans (BeTurn.of_below (hbd.out.trans (hb5'.out.mono hbd.out.size))) e2
              refine ⟨by rw [hs9'.out]; exact e4.keepsO, e4.keepX, _, fun k hk => (e3 k hk).imp id (fun h => Nat.le_trans (hbd.out.trans (hb5'.out.mono hbd.out.size)).size h), acc ++ [insideT y], want, A3, c3, Aw, cw, rfl, hw32'.out, ?_, ?_, e1⟩
              · rw [← lvl_in hget.out hm'.out]; exact hlv'.out
              · rw [List.length_append]
                have := hzz'.out
                simp
                omega
            · refine wpOpIn_step rfl fun K hK => ?_
              rw [if_pos (by kernel_rfl)]
              refine oper_round (fun c e => by cases e) ?_
              simp only [ly1, ly2, ly3]
              obtain ⟨V5, hV5⟩ : ∃ V, V4.alloc (.cells #[.string (insideT y)] 9) = V := ⟨_, rfl⟩
              refine wp_buildT (.tmp 26) rfl rfl ?_
              have hb5 : Below V4.heap.size V4 V5 := by rw [← hV5]; exact (Below.refl _ _).alloc (Nat.le_refl _) _
              have hn5 := hid (show Holds V5 V4.heap.size 9 [.string (insideT y)] from by rw [← hV5]; exact Holds.new V4 9 #[.string (insideT y)])
              have hb5' := hid hb5
              have hS5 := hid (hS4.out.on hb5)
              rw [hV5]
              refine hK _ _ ?_
              clear hK K hb5 hV5
              refine wpAnyIn_all (rs := [0]) (by kernel_rfl) (by simp) (List.forall_mem_cons.2 ⟨?_, fun _ h => nomatch h⟩)
              refine pureIn (.slice Ai acc.length ci) rfl rfl (fun c e => by cases e) (by kernel_rfl) (by have c5 := (hS5.out).ic.cO 0 _ rfl; go_simp) ?_; simp only [ly, Act.put]
              refine wpAnyIn_all (rs := [4]) (by kernel_rfl) (by simp) (List.forall_mem_cons.2 ⟨?_, fun _ h => nomatch h⟩)
              refine wpOpIn_step rfl fun K hK => ?_
              rw [if_pos (by kernel_rfl)]
              refine oper_round (fun c e => by cases e) ?_
              simp only [ly1, ly2, ly3]
              refine wp_appendT (.tmp 24) (.tmp 27) rfl (g + 11) Ai acc.length ci V4.heap.size acc (insideT y) rfl rfl (by have := hzz'.out; have := hlt'.out; have := hN'.out; omega) hS5.out.ri hn5.out (by have := hbd.out.size; have := hsz'.out; have := hs9'.out; have := hb5'.out.size; omega) ?_
              intro A3 c3 V6 hrow hg6 hF6
              refine hK _ _ ?_
              clear hK K
              refine wpAnyIn_all (rs := [5]) (by kernel_rfl) (by simp) (List.forall_mem_cons.2 ⟨?_, fun _ h => nomatch h⟩)
              refine wpOpIn_step rfl fun K hK => ?_
              rw [if_pos (by kernel_rfl)]
              refine oper_round (fun c e => by cases e) ?_
              simp only [ly1, ly2, ly3]
              have hne5 := fun k (hk : k < g + 11) => show some k ≠ (Value.slice Ai acc.length ci).ownBlock from fun e => by have := (hS5.out.ri.lt k e.symm).1; omega
              have h5 := hS5.out.ic.grown hg6 (hne5 _ (by omega))
              have h7 := (hS5.out.nc.grown hg6 (hne5 _ (by omega))).far ⟨g + 5, 0, none⟩ (by show g + 7 ≠ g + 5; omega) (.slice A3 (acc.length + 1) c3)
              have c5 := h5.cO 0 _ rfl
              have f5 := h5.frozen 0
              go_simp
              refine hK _ _ ?_
              clear hK K c5 f5 h5
              have c7 := h7.cO 0 _ rfl
              have f7 := h7.frozen 0
              refine wpAnyIn_done (by kernel_rfl) ?_ _
              have hfin := hid (be_in hS5.out hg6 hrow hF6 rfl rfl)
              clear hrow hg6 hF6 h7
              gi_wp2_with fail
              obtain ⟨e1, e2, e3⟩ := hfin.out
              have e4 := BeTurn.trans (BeTurn.of_below (hbd.out.trans (hb5'.out.mono hbd.out.size))) e2
              refine ⟨by rw [hs9'.out]; exact e4.keepsO, e4.keepX, _, fun k hk => (e3 k hk).imp id (fun h => Nat.le_trans (hbd.out.trans (hb5'.out.mono hbd.out.size)).size h), acc ++ [insideT y], want, A3, c3, Aw, cw, rfl, hw32'.out, ?_, ?_, e1⟩
              · rw [← lvl_in hget.out hm'.out]; exact hlv'.out
              · rw [List.length_append]
                have := hzz'.out
                simp
                omega
      · have hm' := hid (show may x y = false from by simpa using hm)
        have hTn := hid (show T = none from by rw [← hlv'.out]; exact lvl_bad hget.out hm'.out)
        rw [hm'.out] at hmr
        subst hmr
        clear hm
        have k2 := hS2.out.r1
        have k3 := hS2.out.r2.far ⟨g + 2, 0, none⟩ (by show g + 3 ≠ g + 2; omega) (.slice none 0 0)
        have k4 := (hS2.out.r3.far ⟨g + 2, 0, none⟩ (by show g + 4 ≠ g + 2; omega) (.slice none 0 0)).far ⟨g + 3, 0, none⟩ (by show g + 4 ≠ g + 3; omega) (.slice none 0 0)
        have c2 := k2.cO 0 _ rfl
        have f2 := k2.frozen 0
        have c3 := k3.cO 0 _ rfl
        have f3 := k3.frozen 0
        have c4 := k4.cO 0 _ rfl
        have f4 := k4.frozen 0
        clear k2 k3 k4
        gi_wp2_with fail
        obtain ⟨e1, e2⟩ := be_bad (o := beOwn acc want Ai ci Aw cw) hS2.out rfl
        exact ⟨by rw [hs9'.out]; exact (BeTurn.trans (BeTurn.of_below hbd.out) e1).keepsO, hTn.out, e2.1, e2.2.1, e2.2.2.1, e2.2.2.2.1⟩
    · have hget := hid (ksGet_none hno)
      have c6 := hS1.out.wc.cO 0 _ rfl
      have u2 := IntWalk.i64_in ((x : Int) + 1) (by have := hlt'.out; have := hN'.out; omega)
      clear hno
      gi_wp2_with (first
        | ((with_reducible refine at_slotIn (some 33) ?_); refine wpListIn_load_mid rfl 33 (.tmp 12) rfl q 0 rfl (byteCells s) _ (by exact h_all hq1.out) Try.underlying33 rfl (by exact hCx.out.size') ?_)
        | ((with_reducible refine at_slotIn (some 34) ?_); refine wpListIn_pushHash rfl rfl (.tmp 33) (.tmp 32) (.tmp 34) rfl rfl (g + 11) Aw want.length cw _ s rfl rfl rfl (by have := hCx.out.len; rw [byteCells, List.length_map] at this; exact this) (by have := hzz'.out; have := hlt'.out; have := hN'.out; omega) hS1.out.rw (by have := hsz'.out; have := hs9'.out; have := hb1'.out.size; omega) ?_; intro A3 c3 V6 hrow hg6 hF6; have hrow' := hid hrow; have hg6' := hid hg6; have hF6' := hid hF6; have hn6 := hid (hS1.out.nc.grown hg6 (fun e => by have := (hS1.out.rw.lt _ e.symm).1; omega)); have hw6 := hS1.out.wc.grown hg6 (fun e => by have := (hS1.out.rw.lt _ e.symm).1; omega); clear c6 hrow hg6 hF6; have c6 := hw6.cO 0 _ rfl; have f6 := hw6.frozen 0; clear hw6; have h7 := hn6.out.far ⟨g + 6, 0, none⟩ (by show g + 7 ≠ g + 6; omega) (.slice A3 (want.length + 1) c3); have c7 := h7.cO 0 _ rfl; have f7 := h7.frozen 0; clear h7)
        | fail)
      have hfin := hid (be_want hS1.out hg6'.out hrow'.out hF6'.out rfl rfl)
      obtain ⟨e1, e2, e3⟩ := hfin.out
      have e4 := BeTurn.trans (BeTurn.of_below hb1'.out) e2
      refine ⟨by rw [hs9'.out]; exact e4.keepsO, e4.keepX, _, fun k hk => (e3 k hk).imp id (fun h => Nat.le_trans hb1'.out.size h), acc, want ++ [s], Ai, ci, A3, c3, rfl, (fun h hh => (List.mem_append.1 hh).elim (hw32'.out h) (fun hh => by rw [List.mem_singleton.1 hh]; have := hCx.out.len; rw [byteCells, List.length_map] at this; exact this)), ?_, ?_, e1⟩
      · rw [← lvl_want hget.out]; exact hlv'.out
      · rw [List.length_append]
        have := hzz'.out
        simp
        omega
  case done =>
    rintro D ys o V hD rfl ⟨acc, want, Ai, ci, Aw, cw, rfl, hw3, hlv, hzz, hS⟩ hK
    have hw32' := hid hw3
    clear hw3
    rw [List.length_range] at hlv hzz hS
    rw [List.drop_of_length_le (Nat.le_refl _)] at hlv
    have hTs := hid (show T = some (acc, want) from hlv.symm)
    have hS' := hid hS
    have hK' := hid hK
    have hD' := hid hD
    have hzz' := hid hzz
    have c6 := hS.wc.cO 0 _ rfl
    have c5 := hS.ic.cO 0 _ rfl
    clear hS hK hD hzz hlv
    by_cases hw : want = []
    · subst hw
      have k2 := hS'.out.r1
      have k3 := hS'.out.r2.far ⟨g + 2, 0, none⟩ (by show g + 3 ≠ g + 2; omega) (.slice Ai acc.length ci)
      have k4 := (hS'.out.r3.far ⟨g + 2, 0, none⟩ (by show g + 4 ≠ g + 2; omega) (.slice Ai acc.length ci)).far ⟨g + 3, 0, none⟩ (by show g + 4 ≠ g + 3; omega) (.slice none 0 0)
      have c2 := k2.cO 0 _ rfl
      have f2 := k2.frozen 0
      have c3 := k3.cO 0 _ rfl
      have f3 := k3.frozen 0
      have c4 := k4.cO 0 _ rfl
      have f4 := k4.frozen 0
      clear k2 k3 k4
      go_wp2_with fail
      obtain ⟨e1, e2, e3, e4, e5, e6⟩ := be_bad (o := fun _ => False) hS'.out (u2 := .slice Ai acc.length ci) (u3 := .slice none 0 0) (u4 := .int .i64 0) rfl
      have hz := hs9'.out
      have hd := hD'.out
      have hne : ∀ k, k < g + 9 → k ≠ D := fun k hk => by omega
      refine ⟨by simp, .inl ⟨_, _, rfl, run_takeDeferred ((e6 D (by omega) (by omega) (by omega)).trans hK'.out), ?_⟩⟩
      refine ⟨_, results_ccc rfl _ _ (g + 2) (g + 3) (g + 4) _ _ _ rfl rfl rfl (load_ts (e3.putD (hne _ (by omega)))) (load_hs (e4.putD (hne _ (by omega)))) (load_en (e5.putD (hne _ (by omega)))), ?_, ?_⟩
      · rw [hTs.out]
        unfold BelowPost
        simp only [if_true]
        refine ⟨Ai, ci, rfl, rown_low (rown_block hS'.out.ri fun k hk => ?_) (by have := hgw.out; omega)⟩
        have := (hS'.out.ri.lt k hk).1
        exact (World.putObj_heap_other (by omega)).trans (e6 k (by omega) (by omega) (by omega))
      · rw [hgw.out]
        exact below_putD e2 (by omega)
    · have hpos : (0 : Int) < (want.length : Int) := by
        have := List.length_pos_iff.2 hw
        omega
      obtain ⟨bq, hq1, hq2, -, hq4, -⟩ := own_rowH hS'.out.rw
      obtain ⟨Vv, hVv⟩ : ∃ U, V.alloc (.cells #[.slice Aw want.length cw] 62) = U := ⟨_, rfl⟩
      have hbv : Below V.heap.size V Vv := by rw [← hVv]; exact (Below.refl _ _).alloc (Nat.le_refl _) _
      have hHv : Holds Vv V.heap.size 62 [.slice Aw want.length cw] := by rw [← hVv]; exact Holds.new V _ #[.slice Aw want.length cw]
      have hUn := hid (unlikeH_any V.heap.size bq Aw want.length cw want (fun x hx => hw32'.out x hx) rfl hq1 (by have := hzz'.out; have := hN'.out; omega) Vv hHv (fun h => (hq2 h).on (hbv.block bq (hq2 h).lt)))
      have hVv' := hid hVv
      have hbv' := hid hbv
      clear hq1 hq2 hq4 hVv hbv hHv c5
      go_wp2_with (first
        | (go_at_call 78; refine (sValH_any _ _ _ V).mono ?_; rintro e w' ⟨rfl, hw'⟩; rw [hVv'.out] at hw'; subst hw'; clear c6)
        | (go_at_call 77; refine (hUn.out).mono ?_; rintro e V3 ⟨A3, m3, c3, rfl, hr3, hf3, hb3⟩; have hS3 := hid (hS'.out.on (hbv'.out.trans (hb3.mono hbv'.out.size))); have hr3' := hid hr3; have hf3' := hid (fun k hk => Nat.le_trans hbv'.out.size (hf3 k hk)); have hb3' := hid (hbv'.out.trans (hb3.mono hbv'.out.size)); have k2 := hS3.out.r1; have k3 := hS3.out.r2.far ⟨g + 2, 0, none⟩ (by show g + 3 ≠ g + 2; omega) (.slice none 0 0); have k4 := (hS3.out.r3.far ⟨g + 2, 0, none⟩ (by show g + 4 ≠ g + 2; omega) (.slice none 0 0)).far ⟨g + 3, 0, none⟩ (by show g + 4 ≠ g + 3; omega) (.slice A3 m3 c3); have c2 := k2.cO 0 _ rfl; have f2 := k2.frozen 0; have c3' := k3.cO 0 _ rfl; have f3 := k3.frozen 0; have c4 := k4.cO 0 _ rfl; have f4 := k4.frozen 0; clear k2 k3 k4 hr3 hf3 hb3)
        | fail)
      obtain ⟨e1, e2, e3, e4, e5, e6⟩ := be_bad (o := fun _ => False) hS3.out (u2 := .slice none 0 0) (u3 := .slice A3 m3 c3) (u4 := .int .i64 1201) rfl
      have hz := hs9'.out
      have hd := hD'.out
      have hne : ∀ k, k < g + 9 → k ≠ D := fun k hk => by omega
      have hVz := (show g ≤ V.heap.size from by have := hS'.out.fc.lt; omega)
      have hVD : D < V.heap.size := (Array.getElem?_eq_some_iff.1 hK'.out).1
      refine ⟨by simp, .inl ⟨_, _, rfl, run_takeDeferred ((e6 D (by omega) (by omega) (by omega)).trans ((hb3'.out.block D hVD).trans hK'.out)), ?_⟩⟩
      refine ⟨_, results_ccc rfl _ _ (g + 2) (g + 3) (g + 4) _ _ _ rfl rfl rfl (load_ts (e3.putD (hne _ (by omega)))) (load_hs (e4.putD (hne _ (by omega)))) (load_en (e5.putD (hne _ (by omega)))), ?_, ?_⟩
      · rw [hTs.out]
        unfold BelowPost
        simp only [if_neg hw]
        refine ⟨A3, m3, c3, rfl, rown_block hr3'.out fun k hk => ?_, fun k hk => ?_⟩
        · have h1 := hf3'.out k hk
          have h2 : g + 9 ≤ V.heap.size := by omega
          exact (World.putObj_heap_other (by omega)).trans (e6 k (by omega) (by omega) (by omega))
        · have h1 := hf3'.out k hk
          have := hgw.out
          omega
      · rw [hgw.out]
        exact below_putD e2 (by omega)
  case stop =>
    rintro D V hD ⟨e, hB, h2, h3, h4⟩ hK
    have hz := hs9'.out
    have hne : ∀ k, k < g + 9 → k ≠ D := fun k hk => by omega
    gi_wp2_with fail
    refine ⟨by simp, .inl ⟨_, _, rfl, run_takeDeferred hK, ?_⟩⟩
    refine ⟨_, results_ccc rfl _ _ (g + 2) (g + 3) (g + 4) _ _ _ rfl rfl rfl (load_ts (h2.putD (hne _ (by omega)))) (load_hs (h3.putD (hne _ (by omega)))) (load_en (h4.putD (hne _ (by omega)))), ?_, ?_⟩
    · rw [e]
      rfl
    · rw [hgw.out]
      exact below_putD hB (by omega)

end Go.Proofs.Ytpjfhbmegabafaa
