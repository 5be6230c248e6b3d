/- Layer 7, the reference's side: a disk of texts. -/
import Derived.Test.YtbclmkpigdeilaaDkW
import Derived.Test.YtbclmkpigdeilaaTexts
import Derived.IntWalk
namespace Go.Proofs.Ytbclmkpigdeilaa
open Go.RowKit
open Go.Lib (strCells strCells_length strCells_oneCell)

/-- Of what was there only blocks of S have turned. -/
structure TurnS (S : Nat → Prop) (w w' : World) : Prop where
  os : w'.os = w.os
  tape : w'.tape = w.tape
  output : w'.output = w.output
  size : w.heap.size ≤ w'.heap.size
  block : ∀ k, k < w.heap.size → ¬ S k → w'.heap[k]? = w.heap[k]?
section
variable {S : Nat → Prop} {a b c : World} {B g : Nat}
theorem TurnS.refl (S : Nat → Prop) (a : World) : TurnS S a a := ⟨rfl, rfl, rfl, Nat.le_refl _, fun _ _ _ => rfl⟩
theorem TurnS.trans (h : TurnS S a b) (k : TurnS S b c) : TurnS S a c := ⟨k.os.trans h.os, k.tape.trans h.tape, k.output.trans h.output, Nat.le_trans h.size k.size, fun i hi hs => (k.block i (Nat.lt_of_lt_of_le hi h.size) hs).trans (h.block i hi hs)⟩
theorem TurnS.of_below (h : Below a.heap.size a b) : TurnS S a b := ⟨h.os, h.tape, h.output, h.size, fun k hk _ => h.block k hk⟩
theorem TurnS.up (h : TurnS S a b) (k : Below b.heap.size b c) : TurnS S a c := h.trans (.of_below k)
theorem TurnS.cell (h : TurnS S a b) (p : Addr) (hp : S p.block) (v : Value) : TurnS S a (b.setCell p v) :=
  ⟨h.os, h.tape, h.output, by simpa [World.setCell] using h.size, fun k hk hs => (heap_setCell_other b p k v (fun e => hs (e ▸ hp))).trans (h.block k hk hs)⟩
theorem TurnS.below (h : TurnS S a b) (hs : ∀ k, S k → B ≤ k) (hB : B ≤ a.heap.size) : Below B a b := ⟨h.os, h.tape, h.output, h.size, fun k hk => h.block k (Nat.lt_of_lt_of_le hk hB) (fun e => by have := hs k e; omega)⟩
theorem TurnS.holds {t : TypeId} {cs : List Value} (h : TurnS S a b) (hh : Holds a g t cs) (hs : ¬ S g) : Holds b g t cs := (h.block g hh.lt hs).trans hh
end

/-- The first i of a, the rest of b. -/
def mix {α : Type} (a b : List α) (i : Nat) : List α := a.take i ++ b.drop i
section
variable {α : Type} {a b : List α} {i : Nat} {x : α}
theorem mix_zero (a b : List α) : mix a b 0 = b := rfl
theorem mix_end (hl : a.length = b.length) : mix a b b.length = a := by
  unfold mix
  rw [List.drop_length, List.append_nil, ← hl, List.take_length]
theorem mix_len (hl : a.length = b.length) : (mix a b i).length = b.length := by
  unfold mix
  rw [List.length_append, List.length_take, List.length_drop]
  omega
theorem mix_set (ha : a[i]? = some x) (hl : a.length = b.length) : (mix a b i).set i x = mix a b (i + 1) := by
  have hi := (List.getElem?_eq_some_iff.1 ha).1
  unfold mix
  have h1 : (a.take i).length = i := by rw [List.length_take]; omega
  rw [List.set_append_right _ _ (by rw [h1]; exact Nat.le_refl _), h1, Nat.sub_self, List.take_add_one, ha, List.append_assoc]
  congr 1
  rw [List.drop_eq_getElem_cons (by rw [← hl]; exact hi)]
  rfl
theorem mix_same (h : a[i]? = b[i]?) (hl : a.length = b.length) : mix a b (i + 1) = mix a b i := by
  cases hx : a[i]? with
  | none =>
    unfold mix
    have h1 := List.getElem?_eq_none_iff.1 hx
    rw [List.take_of_length_le h1, List.take_of_length_le (Nat.le_succ_of_le h1), List.drop_of_length_le (by omega), List.drop_of_length_le (by omega)]
  | some x =>
    rw [← mix_set hx hl]
    rw [hx] at h
    refine List.ext_getElem? fun j => ?_
    rw [List.getElem?_set]
    by_cases e : i = j
    · subst e
      have hi := (List.getElem?_eq_some_iff.1 hx).1
      rw [if_pos rfl, if_pos (by rw [mix_len hl, ← hl]; exact hi)]
      unfold mix
      rw [List.getElem?_append_right (by rw [List.length_take]; omega), List.length_take, List.getElem?_drop]
      rw [show i + (i - min i a.length) = i from by omega]
      exact h
    · rw [if_neg e]
theorem mix_after (hl : a.length = b.length) {j : Nat} (hj : i ≤ j) : (mix a b i)[j]? = b[j]? := by
  unfold mix
  by_cases h : i ≤ a.length
  · rw [List.getElem?_append_right (by rw [List.length_take]; omega), List.length_take, List.getElem?_drop]
    congr 1
    omega
  · rw [List.getElem?_eq_none (by rw [List.length_append, List.length_take, List.length_drop]; omega), List.getElem?_eq_none (by omega)]
end

/-- The reference's disk in memory. -/
structure RDiskAt (w : World) (B x g1 c1 g2 c2 g3 n : Nat) (now thn : List ByteArray) (fl : List Bool) : Prop where
  own : Holds w x 118 [.slice (some ⟨g1, 0, none⟩) n c1, .slice (some ⟨g2, 0, none⟩) n c2, .slice (some ⟨g3, 0, none⟩) n n]
  now : w.ownsRow B 9 1 (.slice (some ⟨g1, 0, none⟩) n c1) n (strs now)
  thn : w.ownsRow B 9 1 (.slice (some ⟨g2, 0, none⟩) n c2) n (strs thn)
  fl_ : Holds w g3 4 (bools fl)
  fll : fl.length = n
  n12 : g1 ≠ g2
  most : n ≤ 256
  pos : 1 ≤ n
  nB : B ≤ x ∧ B ≤ g1 ∧ B ≤ g2 ∧ B ≤ g3
def RS (g1 g2 g3 : Nat) (k : Nat) : Prop := k = g1 ∨ k = g2 ∨ k = g3

theorem row_holds {w : World} {B g n c : Nat} {e t : TypeId} {size : Nat} {xs cs : List Value} {g' : Nat} (h : w.ownsRow B e size (.slice (some ⟨g, 0, none⟩) n c) n xs) (hh : Holds w g' t cs) (ht : t ≠ e) : g' ≠ g := by
  rintro rfl
  rcases h.2 with ⟨hv, _⟩ | ⟨q, cap, cur, hv, _, hq, _⟩
  · cases hv
  · injection hv with h1
    injection h1 with h1
    injection h1 with h1
    subst h1
    unfold Holds at hh
    rw [hh] at hq
    injection hq with hq
    injection hq with _ hq
    exact ht hq
section
variable {w w' : World} {B x g1 c1 g2 c2 g3 n : Nat} {now thn : List ByteArray} {fl : List Bool}
theorem RDiskAt.x1 (h : RDiskAt w B x g1 c1 g2 c2 g3 n now thn fl) : x ≠ g1 := row_holds h.now h.own (by decide)
theorem RDiskAt.x2 (h : RDiskAt w B x g1 c1 g2 c2 g3 n now thn fl) : x ≠ g2 := row_holds h.thn h.own (by decide)
theorem RDiskAt.f1 (h : RDiskAt w B x g1 c1 g2 c2 g3 n now thn fl) : g3 ≠ g1 := row_holds h.now h.fl_ (by decide)
theorem RDiskAt.f2 (h : RDiskAt w B x g1 c1 g2 c2 g3 n now thn fl) : g3 ≠ g2 := row_holds h.thn h.fl_ (by decide)
theorem RDiskAt.x3 (h : RDiskAt w B x g1 c1 g2 c2 g3 n now thn fl) : x ≠ g3 := by
  rintro rfl
  have h1 := h.own
  have h2 := h.fl_
  unfold Holds at h1 h2
  rw [h1] at h2
  injection h2 with h2
  injection h2 with _ h2
  exact absurd h2 (by decide)
theorem RDiskAt.nl (h : RDiskAt w B x g1 c1 g2 c2 g3 n now thn fl) : now.length = n := by have := h.now.1; rw [strs_length] at this; omega
theorem RDiskAt.tl (h : RDiskAt w B x g1 c1 g2 c2 g3 n now thn fl) : thn.length = n := by have := h.thn.1; rw [strs_length] at this; omega
theorem RDiskAt.lt (h : RDiskAt w B x g1 c1 g2 c2 g3 n now thn fl) : x < w.heap.size ∧ g1 < w.heap.size ∧ g2 < w.heap.size ∧ g3 < w.heap.size := ⟨h.own.lt, (h.now.lt g1 rfl).2, (h.thn.lt g2 rfl).2, h.fl_.lt⟩
theorem RDiskAt.kept (h : RDiskAt w B x g1 c1 g2 c2 g3 n now thn fl) (hk : ∀ k, k = x ∨ k = g1 ∨ k = g2 ∨ k = g3 → w'.heap[k]? = w.heap[k]?) : RDiskAt w' B x g1 c1 g2 c2 g3 n now thn fl :=
  ⟨(hk x (.inl rfl)).trans h.own, rows_of_blocks h.now (fun k e => hk k (.inr (.inl (Option.some.inj e).symm))), rows_of_blocks h.thn (fun k e => hk k (.inr (.inr (.inl (Option.some.inj e).symm)))), (hk g3 (.inr (.inr (.inr rfl)))).trans h.fl_, h.fll, h.n12, h.most, h.pos, h.nB⟩
theorem RDiskAt.on (h : RDiskAt w B x g1 c1 g2 c2 g3 n now thn fl) (hb : Below w.heap.size w w') : RDiskAt w' B x g1 c1 g2 c2 g3 n now thn fl :=
  h.kept fun k hk => hb.block k (by have := h.lt; omega)
theorem RDiskAt.c1_ (h : RDiskAt w B x g1 c1 g2 c2 g3 n now thn fl) {k : Nat} {s : ByteArray} (hs : now[k]? = some s) : w.cell? ⟨g1, k, none⟩ = some (.string s) := by
  have hk := (List.getElem?_eq_some_iff.1 hs).1
  rw [h.now.cellAt k (by rw [← h.nl]; omega)]
  unfold strs
  rw [List.getElem?_map, hs]
  rfl
theorem RDiskAt.c2_ (h : RDiskAt w B x g1 c1 g2 c2 g3 n now thn fl) {k : Nat} {s : ByteArray} (hs : thn[k]? = some s) : w.cell? ⟨g2, k, none⟩ = some (.string s) := by
  have hk := (List.getElem?_eq_some_iff.1 hs).1
  rw [h.thn.cellAt k (by rw [← h.tl]; omega)]
  unfold strs
  rw [List.getElem?_map, hs]
  rfl
theorem RDiskAt.c3_ (h : RDiskAt w B x g1 c1 g2 c2 g3 n now thn fl) {k : Nat} (hk : k < n) : w.cell? ⟨g3, k, none⟩ = some (.bool (fl.getD k false)) := h.fl_.cK k _ (bools_at (by rw [h.fll]; exact hk))
theorem strs_set (l : List ByteArray) (k : Nat) (s : ByteArray) : (strs l).set k (.string s) = strs (l.set k s) := by
  unfold strs
  rw [List.map_set]
theorem RDiskAt.set1 (h : RDiskAt w B x g1 c1 g2 c2 g3 n now thn fl) (k : Nat) (s : ByteArray) : RDiskAt (w.setCell ⟨g1, k, none⟩ (.string s)) B x g1 c1 g2 c2 g3 n (now.set k s) thn fl := by
  have h1 := (h.now.stored k (.string s)).1
  rw [strs_set] at h1
  exact ⟨h.own.far _ h.x1 _, h1, rows_of_blocks h.thn (fun j e => heap_setCell_other _ _ _ _ (by have e2 := Option.some.inj e; have := h.n12; show j ≠ g1; exact fun e3 => this (e3.symm.trans e2.symm))), h.fl_.far _ h.f1 _, h.fll, h.n12, h.most, h.pos, h.nB⟩
theorem RDiskAt.set2 (h : RDiskAt w B x g1 c1 g2 c2 g3 n now thn fl) (k : Nat) (s : ByteArray) : RDiskAt (w.setCell ⟨g2, k, none⟩ (.string s)) B x g1 c1 g2 c2 g3 n now (thn.set k s) fl := by
  have h1 := (h.thn.stored k (.string s)).1
  rw [strs_set] at h1
  exact ⟨h.own.far _ h.x2 _, rows_of_blocks h.now (fun j e => heap_setCell_other _ _ _ _ (by have e2 := Option.some.inj e; have := h.n12; show j ≠ g2; exact fun e3 => this (e2.trans e3))), h1, h.fl_.far _ h.f2 _, h.fll, h.n12, h.most, h.pos, h.nB⟩
theorem RDiskAt.set3 (h : RDiskAt w B x g1 c1 g2 c2 g3 n now thn fl) (k : Nat) (v : Bool) : RDiskAt (w.setCell ⟨g3, k, none⟩ (.bool v)) B x g1 c1 g2 c2 g3 n now thn (fl.set k v) := by
  have h1 := h.fl_.set k (.bool v)
  rw [bools_set] at h1
  exact ⟨h.own.far _ h.x3 _, rows_of_blocks h.now (fun j e => heap_setCell_other _ _ _ _ (by have e2 := Option.some.inj e; have := h.f1; show j ≠ g3; exact fun e3 => this (e3.symm.trans e2.symm))), rows_of_blocks h.thn (fun j e => heap_setCell_other _ _ _ _ (by have e2 := Option.some.inj e; have := h.f2; show j ≠ g3; exact fun e3 => this (e3.symm.trans e2.symm))), h1, by rw [List.length_set]; exact h.fll, h.n12, h.most, h.pos, h.nB⟩
end

set_option maxRecDepth 100000 in
theorem rdSectors_any {B x g1 c1 g2 c2 g3 n : Nat} {now thn : List ByteArray} {fl : List Bool} (w : World) (h : RDiskAt w B x g1 c1 g2 c2 g3 n now thn fl) : Calls Try.prog 43 #[.pointer (some ⟨x, 0, none⟩)] w fun e w' => e = .returned (.int .i64 (n : Int)) ∧ w = w' := by
  have c0 := h.own.cK 0 _ rfl
  clear h
  go_enter Try.func43, Try.ntmps43
  go_wp2
  go_ret
  exact ⟨rfl, rfl⟩
set_option maxRecDepth 100000 in
theorem rdRead_yes {B x g1 c1 g2 c2 g3 n : Nat} {now thn : List ByteArray} {fl : List Bool} (k : Nat) (s : ByteArray) (hs : now[k]? = some s) (w : World) (h : RDiskAt w B x g1 c1 g2 c2 g3 n now thn fl) : Calls Try.prog 35 #[.pointer (some ⟨x, 0, none⟩), .int .i64 (k : Int)] w fun e w' => e = .returned (.tuple #[.string s, .int .i64 0]) ∧ w = w' := by
  have c0 := h.own.cK 0 _ rfl
  have cs := h.c1_ hs
  have hk : (k : Int) < (n : Int) := by have := (List.getElem?_eq_some_iff.1 hs).1; rw [h.nl] at this; omega
  clear h hs
  go_enter Try.func35, Try.ntmps35
  go_wp2
  go_ret2
  exact ⟨rfl, rfl⟩
set_option maxRecDepth 100000 in
theorem rdRead_no {B x g1 c1 g2 c2 g3 n : Nat} {now thn : List ByteArray} {fl : List Bool} (at_ : Int) (hn : ¬ (0 ≤ at_ ∧ at_ < (n : Int))) (w : World) (h : RDiskAt w B x g1 c1 g2 c2 g3 n now thn fl) : Calls Try.prog 35 #[.pointer (some ⟨x, 0, none⟩), .int .i64 at_] w fun e w' => e = .returned (.tuple #[.string ⟨#[]⟩, .int .i64 700]) ∧ w = w' := by
  have c0 := h.own.cK 0 _ rfl
  clear h
  by_cases h1 : at_ < 0
  · clear hn
    go_enter Try.func35, Try.ntmps35
    go_wp2
    go_ret2
    exact ⟨rfl, rfl⟩
  · have h2 : (n : Int) ≤ at_ := by omega
    have h3 : decide ((n : Int) ≤ at_) = true := decide_eq_true h2
    clear hn
    go_enter Try.func35, Try.ntmps35
    go_wp2
    go_ret2
    exact ⟨rfl, rfl⟩
set_option maxRecDepth 100000 in
theorem rdWrite_no {B x g1 c1 g2 c2 g3 n : Nat} {now thn : List ByteArray} {fl : List Bool} (at_ : Int) (s : ByteArray) (hn : ¬ (0 ≤ at_ ∧ at_ < (n : Int) ∧ s.size = 64)) (w : World) (h : RDiskAt w B x g1 c1 g2 c2 g3 n now thn fl) : Calls Try.prog 33 #[.pointer (some ⟨x, 0, none⟩), .int .i64 at_, .string s] w fun e w' => e = .returned (.int .i64 700) ∧ w = w' := by
  have c0 := h.own.cK 0 _ rfl
  clear h
  by_cases h1 : at_ < 0
  · clear hn
    go_enter Try.func33, Try.ntmps33
    go_wp2
    go_ret
    exact ⟨rfl, rfl⟩
  · by_cases h2 : (n : Int) ≤ at_
    · have h3 : decide ((n : Int) ≤ at_) = true := decide_eq_true h2
      clear hn
      go_enter Try.func33, Try.ntmps33
      go_wp2
      go_ret
      exact ⟨rfl, rfl⟩
    · have h3 : decide ((n : Int) ≤ at_) = false := decide_eq_false h2
      have h4 : ((s.size : Int) == 64) = false := beq_eq_false_iff_ne.2 (fun e => hn ⟨by omega, by omega, by omega⟩)
      have h5 : ((s.size : Int) != 64) = true := by rw [bne, h4]; rfl
      clear hn
      go_enter Try.func33, Try.ntmps33
      go_wp2
      go_ret
      exact ⟨rfl, rfl⟩
set_option maxRecDepth 100000 in
theorem rdWrite_yes {B x g1 c1 g2 c2 g3 n : Nat} {now thn : List ByteArray} {fl : List Bool} (k : Nat) (s : ByteArray) (hk : k < n) (hs : s.size = 64) (w : World) (h : RDiskAt w B x g1 c1 g2 c2 g3 n now thn fl) : Calls Try.prog 33 #[.pointer (some ⟨x, 0, none⟩), .int .i64 (k : Int), .string s] w fun e w' => e = .returned (.int .i64 0) ∧ RDiskAt w' B x g1 c1 g2 c2 g3 n (now.set k s) thn (fl.set k true) ∧ TurnS (RS g1 g2 g3) w w' := by
  have c0 := h.own.cK 0 _ rfl
  have c2 := h.own.cK 2 _ rfl
  obtain ⟨u, hu⟩ : ∃ u, now[k]? = some u := ⟨_, List.getElem?_eq_getElem (by rw [h.nl]; exact hk)⟩
  have cs := h.c1_ hu
  have fs := h.now.frozenAt k
  have cb := h.c3_ hk
  have fb := h.fl_.frozen k
  have hk' : (k : Int) < (n : Int) := by omega
  have hs' : (s.size : Int) = 64 := by omega
  have e1 : ¬ x = g1 := h.x1
  have e2 : ¬ g3 = g1 := h.f1
  have e3 : ¬ g1 = g3 := fun e => e2 e.symm
  have e4 : ¬ g1 = x := fun e => e1 e.symm
  have hA := hid ((h.set1 k s).set3 k true)
  have hT := hid (((TurnS.refl (RS g1 g2 g3) w).cell ⟨g1, k, none⟩ (.inl rfl) (.string s)).cell ⟨g3, k, none⟩ (.inr (.inr rfl)) (.bool true))
  clear h hk hs hu
  go_enter Try.func33, Try.ntmps33
  go_wp2_with fail
  go_ret
  exact ⟨rfl, hA.out, hT.out⟩


end Go.Proofs.Ytbclmkpigdeilaa
