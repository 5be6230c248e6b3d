/- Layer 7, the reference's side: a disk of texts.
   Layer 7, the reference's side: Dirty, Sync, Crash, NewDisk.
   Layer 7, the reference's side: Crash.
   Layer 7, the reference's side: NewDisk.
   Layer 7: a program's disk and the document's, side by side.
   Layer 7, the program's side: a disk's Dirty. -/
import Derived.Test.YtmgaegaibglnhaaGreatDkM
import Derived.Test.YtmgaegaibglnhaaGreatTexts
import Derived.Test.YtmgaegaibglnhaaGreatTurnS
import Derived.IntWalk
import Derived.Deep.AppendLies
namespace Go.Proofs.YtmgaegaibglnhaaGreat
open Go.RowKit
open Go.Lib (strCells strCells_length strCells_oneCell)

/-- The first i of a, the rest of b. -/
def mix {α : Type} (a b : List α) (i : Nat) : List α := a.take i ++ b.drop i
section
variable {α : Type} {a b : List α} {i : Nat} {x : α}
theorem mix_zero (a b : List α) : mix a b 0 = b := rfl
theorem mix_end (hl : a.length = b.length) : mix a b b.length = a := by
  unfold mix
  rw [List.drop_length, List.append_nil, ← hl, List.take_length]
theorem mix_len (hl : a.length = b.length) : (mix a b i).length = b.length := by
  unfold mix
  rw [List.length_append, List.length_take, List.length_drop]
  omega
theorem mix_set (ha : a[i]? = some x) (hl : a.length = b.length) : (mix a b i).set i x = mix a b (i + 1) := by
  have hi := (List.getElem?_eq_some_iff.1 ha).1
  unfold mix
  have h1 : (a.take i).length = i := by rw [List.length_take]; omega
  rw [List.set_append_right _ _ (by rw [h1]; exact Nat.le_refl _), h1, Nat.sub_self, List.take_add_one, ha, List.append_assoc]
  congr 1
  rw [List.drop_eq_getElem_cons (by rw [← hl]; exact hi)]
  rfl
theorem mix_same (h : a[i]? = b[i]?) (hl : a.length = b.length) : mix a b (i + 1) = mix a b i := by
  cases hx : a[i]? with
  | none =>
    unfold mix
    have h1 := List.getElem?_eq_none_iff.1 hx
    rw [List.take_of_length_le h1, List.take_of_length_le (Nat.le_succ_of_le h1), List.drop_of_length_le (by omega), List.drop_of_length_le (by omega)]
  | some x =>
    rw [← mix_set hx hl]
    rw [hx] at h
    refine List.ext_getElem? fun j => ?_
    rw [List.getElem?_set]
    by_cases e : i = j
    · subst e
      have hi := (List.getElem?_eq_some_iff.1 hx).1
      rw [if_pos rfl, if_pos (by rw [mix_len hl, ← hl]; exact hi)]
      unfold mix
      rw [List.getElem?_append_right (by rw [List.length_take]; omega), List.length_take, List.getElem?_drop]
      rw [show i + (i - min i a.length) = i from by omega]
      exact h
    · rw [if_neg e]
theorem mix_after (hl : a.length = b.length) {j : Nat} (hj : i ≤ j) : (mix a b i)[j]? = b[j]? := by
  unfold mix
  by_cases h : i ≤ a.length
  · rw [List.getElem?_append_right (by rw [List.length_take]; omega), List.length_take, List.getElem?_drop]
    congr 1
    omega
  · rw [List.getElem?_eq_none (by rw [List.length_append, List.length_take, List.length_drop]; omega), List.getElem?_eq_none (by omega)]
end

/-- The reference's disk in memory. -/
structure RDiskAt (w : World) (B x g1 c1 g2 c2 g3 n : Nat) (now thn : List ByteArray) (fl : List Bool) : Prop where
  own : Holds w x 92 [.slice (some ⟨g1, 0, none⟩) n c1, .slice (some ⟨g2, 0, none⟩) n c2, .slice (some ⟨g3, 0, none⟩) n n]
  now : w.ownsRow B 9 1 (.slice (some ⟨g1, 0, none⟩) n c1) n (strs now)
  thn : w.ownsRow B 9 1 (.slice (some ⟨g2, 0, none⟩) n c2) n (strs thn)
  fl_ : Holds w g3 4 (bools fl)
  fll : fl.length = n
  n12 : g1 ≠ g2
  most : n ≤ 256
  pos : 1 ≤ n
  nB : B ≤ x ∧ B ≤ g1 ∧ B ≤ g2 ∧ B ≤ g3
def RS (g1 g2 g3 : Nat) (k : Nat) : Prop := k = g1 ∨ k = g2 ∨ k = g3

theorem row_holds {w : World} {B g n c : Nat} {e t : TypeId} {size : Nat} {xs cs : List Value} {g' : Nat} (h : w.ownsRow B e size (.slice (some ⟨g, 0, none⟩) n c) n xs) (hh : Holds w g' t cs) (ht : t ≠ e) : g' ≠ g := by
  rintro rfl
  rcases h.2 with ⟨hv, _⟩ | ⟨q, cap, cur, hv, _, hq, _⟩
  · cases hv
  · injection hv with h1
    injection h1 with h1
    injection h1 with h1
    subst h1
    unfold Holds at hh
    rw [hh] at hq
    injection hq with hq
    injection hq with _ hq
    exact ht hq
section
variable {w w' : World} {B x g1 c1 g2 c2 g3 n : Nat} {now thn : List ByteArray} {fl : List Bool}
theorem RDiskAt.x1 (h : RDiskAt w B x g1 c1 g2 c2 g3 n now thn fl) : x ≠ g1 := row_holds h.now h.own (by decide)
theorem RDiskAt.x2 (h : RDiskAt w B x g1 c1 g2 c2 g3 n now thn fl) : x ≠ g2 := row_holds h.thn h.own (by decide)
theorem RDiskAt.f1 (h : RDiskAt w B x g1 c1 g2 c2 g3 n now thn fl) : g3 ≠ g1 := row_holds h.now h.fl_ (by decide)
theorem RDiskAt.f2 (h : RDiskAt w B x g1 c1 g2 c2 g3 n now thn fl) : g3 ≠ g2 := row_holds h.thn h.fl_ (by decide)
theorem RDiskAt.x3 (h : RDiskAt w B x g1 c1 g2 c2 g3 n now thn fl) : x ≠ g3 := by
  rintro rfl
  have h1 := h.own
  have h2 := h.fl_
  unfold Holds at h1 h2
  rw [h1] at h2
  injection h2 with h2
  injection h2 with _ h2
  exact absurd h2 (by decide)
theorem RDiskAt.nl (h : RDiskAt w B x g1 c1 g2 c2 g3 n now thn fl) : now.length = n := by have := h.now.1; rw [strs_length] at this; omega
theorem RDiskAt.tl (h : RDiskAt w B x g1 c1 g2 c2 g3 n now thn fl) : thn.length = n := by have := h.thn.1; rw [strs_length] at this; omega
theorem RDiskAt.lt (h : RDiskAt w B x g1 c1 g2 c2 g3 n now thn fl) : x < w.heap.size ∧ g1 < w.heap.size ∧ g2 < w.heap.size ∧ g3 < w.heap.size := ⟨h.own.lt, (h.now.lt g1 rfl).2, (h.thn.lt g2 rfl).2, h.fl_.lt⟩
theorem RDiskAt.kept (h : RDiskAt w B x g1 c1 g2 c2 g3 n now thn fl) (hk : ∀ k, k = x ∨ k = g1 ∨ k = g2 ∨ k = g3 → w'.heap[k]? = w.heap[k]?) : RDiskAt w' B x g1 c1 g2 c2 g3 n now thn fl :=
  ⟨(hk x (.inl rfl)).trans h.own, rows_of_blocks h.now (fun k e => hk k (.inr (.inl (Option.some.inj e).symm))), rows_of_blocks h.thn (fun k e => hk k (.inr (.inr (.inl (Option.some.inj e).symm)))), (hk g3 (.inr (.inr (.inr rfl)))).trans h.fl_, h.fll, h.n12, h.most, h.pos, h.nB⟩
theorem RDiskAt.on (h : RDiskAt w B x g1 c1 g2 c2 g3 n now thn fl) (hb : Below w.heap.size w w') : RDiskAt w' B x g1 c1 g2 c2 g3 n now thn fl :=
  h.kept fun k hk => hb.block k (by have := h.lt; omega)
theorem RDiskAt.c1_ (h : RDiskAt w B x g1 c1 g2 c2 g3 n now thn fl) {k : Nat} {s : ByteArray} (hs : now[k]? = some s) : w.cell? ⟨g1, k, none⟩ = some (.string s) := by
  have hk := (List.getElem?_eq_some_iff.1 hs).1
  rw [h.now.cellAt k (by rw [← h.nl]; omega)]
  unfold strs
  rw [List.getElem?_map, hs]
  rfl
theorem RDiskAt.c2_ (h : RDiskAt w B x g1 c1 g2 c2 g3 n now thn fl) {k : Nat} {s : ByteArray} (hs : thn[k]? = some s) : w.cell? ⟨g2, k, none⟩ = some (.string s) := by
  have hk := (List.getElem?_eq_some_iff.1 hs).1
  rw [h.thn.cellAt k (by rw [← h.tl]; omega)]
  unfold strs
  rw [List.getElem?_map, hs]
  rfl
theorem RDiskAt.c3_ (h : RDiskAt w B x g1 c1 g2 c2 g3 n now thn fl) {k : Nat} (hk : k < n) : w.cell? ⟨g3, k, none⟩ = some (.bool (fl.getD k false)) := h.fl_.cK k _ (bools_at (by rw [h.fll]; exact hk))
theorem strs_set (l : List ByteArray) (k : Nat) (s : ByteArray) : (strs l).set k (.string s) = strs (l.set k s) := by
  unfold strs
  rw [List.map_set]
theorem RDiskAt.set1 (h : RDiskAt w B x g1 c1 g2 c2 g3 n now thn fl) (k : Nat) (s : ByteArray) : RDiskAt (w.setCell ⟨g1, k, none⟩ (.string s)) B x g1 c1 g2 c2 g3 n (now.set k s) thn fl := by
  have h1 := (h.now.stored k (.string s)).1
  rw [strs_set] at h1
  exact ⟨h.own.far _ h.x1 _, h1, rows_of_blocks h.thn (fun j e => heap_setCell_other _ _ _ _ (by have e2 := Option.some.inj e; have := h.n12; show j ≠ g1; exact fun e3 => this (e3.symm.trans e2.symm))), h.fl_.far _ h.f1 _, h.fll, h.n12, h.most, h.pos, h.nB⟩
theorem RDiskAt.set2 (h : RDiskAt w B x g1 c1 g2 c2 g3 n now thn fl) (k : Nat) (s : ByteArray) : RDiskAt (w.setCell ⟨g2, k, none⟩ (.string s)) B x g1 c1 g2 c2 g3 n now (thn.set k s) fl := by
  have h1 := (h.thn.stored k (.string s)).1
  rw [strs_set] at h1
  exact ⟨h.own.far _ h.x2 _, rows_of_blocks h.now (fun j e => heap_setCell_other _ _ _ _ (by have e2 := Option.some.inj e; have := h.n12; show j ≠ g2; exact fun e3 => this (e2.trans e3))), h1, h.fl_.far _ h.f2 _, h.fll, h.n12, h.most, h.pos, h.nB⟩
theorem RDiskAt.set3 (h : RDiskAt w B x g1 c1 g2 c2 g3 n now thn fl) (k : Nat) (v : Bool) : RDiskAt (w.setCell ⟨g3, k, none⟩ (.bool v)) B x g1 c1 g2 c2 g3 n now thn (fl.set k v) := by
  have h1 := h.fl_.set k (.bool v)
  rw [bools_set] at h1
  exact ⟨h.own.far _ h.x3 _, rows_of_blocks h.now (fun j e => heap_setCell_other _ _ _ _ (by have e2 := Option.some.inj e; have := h.f1; show j ≠ g3; exact fun e3 => this (e3.symm.trans e2.symm))), rows_of_blocks h.thn (fun j e => heap_setCell_other _ _ _ _ (by have e2 := Option.some.inj e; have := h.f2; show j ≠ g3; exact fun e3 => this (e3.symm.trans e2.symm))), h1, by rw [List.length_set]; exact h.fll, h.n12, h.most, h.pos, h.nB⟩
end

set_option maxRecDepth 100000 in
theorem rdSectors_any {B x g1 c1 g2 c2 g3 n : Nat} {now thn : List ByteArray} {fl : List Bool} (w : World) (h : RDiskAt w B x g1 c1 g2 c2 g3 n now thn fl) : Calls Tryz.prog 51 #[.pointer (some ⟨x, 0, none⟩)] w fun e w' => e = .returned (.int .i64 (n : Int)) ∧ w = w' := by
  have c0 := h.own.cK 0 _ rfl
  clear h
  go_enter Tryz.func51, Tryz.ntmps51
  go_wp2
  go_ret
  exact ⟨rfl, rfl⟩
set_option maxRecDepth 100000 in
theorem rdRead_yes {B x g1 c1 g2 c2 g3 n : Nat} {now thn : List ByteArray} {fl : List Bool} (k : Nat) (s : ByteArray) (hs : now[k]? = some s) (w : World) (h : RDiskAt w B x g1 c1 g2 c2 g3 n now thn fl) : Calls Tryz.prog 27 #[.pointer (some ⟨x, 0, none⟩), .int .i64 (k : Int)] w fun e w' => e = .returned (.tuple #[.string s, .int .i64 0]) ∧ w = w' := by
  have c0 := h.own.cK 0 _ rfl
  have cs := h.c1_ hs
  have hk : (k : Int) < (n : Int) := by have := (List.getElem?_eq_some_iff.1 hs).1; rw [h.nl] at this; omega
  clear h hs
  go_enter Tryz.func27, Tryz.ntmps27
  go_wp2
  go_ret2
  exact ⟨rfl, rfl⟩
set_option maxRecDepth 100000 in
theorem rdRead_no {B x g1 c1 g2 c2 g3 n : Nat} {now thn : List ByteArray} {fl : List Bool} (at_ : Int) (hn : ¬ (0 ≤ at_ ∧ at_ < (n : Int))) (w : World) (h : RDiskAt w B x g1 c1 g2 c2 g3 n now thn fl) : Calls Tryz.prog 27 #[.pointer (some ⟨x, 0, none⟩), .int .i64 at_] w fun e w' => e = .returned (.tuple #[.string ⟨#[]⟩, .int .i64 700]) ∧ w = w' := by
  have c0 := h.own.cK 0 _ rfl
  clear h
  by_cases h1 : at_ < 0
  · clear hn
    go_enter Tryz.func27, Tryz.ntmps27
    go_wp2
    go_ret2
    exact ⟨rfl, rfl⟩
  · have h2 : (n : Int) ≤ at_ := by omega
    have h3 : decide ((n : Int) ≤ at_) = true := decide_eq_true h2
    clear hn
    go_enter Tryz.func27, Tryz.ntmps27
    go_wp2
    go_ret2
    exact ⟨rfl, rfl⟩
set_option maxRecDepth 100000 in
theorem rdWrite_no {B x g1 c1 g2 c2 g3 n : Nat} {now thn : List ByteArray} {fl : List Bool} (at_ : Int) (s : ByteArray) (hn : ¬ (0 ≤ at_ ∧ at_ < (n : Int) ∧ s.size = 64)) (w : World) (h : RDiskAt w B x g1 c1 g2 c2 g3 n now thn fl) : Calls Tryz.prog 21 #[.pointer (some ⟨x, 0, none⟩), .int .i64 at_, .string s] w fun e w' => e = .returned (.int .i64 700) ∧ w = w' := by
  have c0 := h.own.cK 0 _ rfl
  clear h
  by_cases h1 : at_ < 0
  · clear hn
    go_enter Tryz.func21, Tryz.ntmps21
    go_wp2
    go_ret
    exact ⟨rfl, rfl⟩
  · by_cases h2 : (n : Int) ≤ at_
    · have h3 : decide ((n : Int) ≤ at_) = true := decide_eq_true h2
      clear hn
      go_enter Tryz.func21, Tryz.ntmps21
      go_wp2
      go_ret
      exact ⟨rfl, rfl⟩
    · have h3 : decide ((n : Int) ≤ at_) = false := decide_eq_false h2
      have h4 : ((s.size : Int) == 64) = false := beq_eq_false_iff_ne.2 (fun e => hn ⟨by omega, by omega, by omega⟩)
      have h5 : ((s.size : Int) != 64) = true := by rw [bne, h4]; rfl
      clear hn
      go_enter Tryz.func21, Tryz.ntmps21
      go_wp2
      go_ret
      exact ⟨rfl, rfl⟩
set_option maxRecDepth 100000 in
theorem rdWrite_yes {B x g1 c1 g2 c2 g3 n : Nat} {now thn : List ByteArray} {fl : List Bool} (k : Nat) (s : ByteArray) (hk : k < n) (hs : s.size = 64) (w : World) (h : RDiskAt w B x g1 c1 g2 c2 g3 n now thn fl) : Calls Tryz.prog 21 #[.pointer (some ⟨x, 0, none⟩), .int .i64 (k : Int), .string s] w fun e w' => e = .returned (.int .i64 0) ∧ RDiskAt w' B x g1 c1 g2 c2 g3 n (now.set k s) thn (fl.set k true) ∧ TurnS (RS g1 g2 g3) w w' := by
  have c0 := h.own.cK 0 _ rfl
  have c2 := h.own.cK 2 _ rfl
  obtain ⟨u, hu⟩ : ∃ u, now[k]? = some u := ⟨_, List.getElem?_eq_getElem (by rw [h.nl]; exact hk)⟩
  have cs := h.c1_ hu
  have fs := h.now.frozenAt k
  have cb := h.c3_ hk
  have fb := h.fl_.frozen k
  have hk' : (k : Int) < (n : Int) := by omega
  have hs' : (s.size : Int) = 64 := by omega
  have e1 : ¬ x = g1 := h.x1
  have e2 : ¬ g3 = g1 := h.f1
  have e3 : ¬ g1 = g3 := fun e => e2 e.symm
  have e4 : ¬ g1 = x := fun e => e1 e.symm
  have hA := hid ((h.set1 k s).set3 k true)
  have hT := hid (((TurnS.refl (RS g1 g2 g3) w).cell ⟨g1, k, none⟩ (.inl rfl) (.string s)).cell ⟨g3, k, none⟩ (.inr (.inr rfl)) (.bool true))
  clear h hk hs hu
  go_enter Tryz.func21, Tryz.ntmps21
  go_wp2_with fail
  go_ret
  exact ⟨rfl, hA.out, hT.out⟩


end Go.Proofs.YtmgaegaibglnhaaGreat
namespace Go.Proofs.YtmgaegaibglnhaaGreat
open Go.RowKit
open Go.Lib (strCells strCells_length strCells_oneCell)

/-- What the reference's lists are for a disk. -/
def thnD (n : Nat) (D : Dk) : List ByteArray := (List.range n).map fun i => (oldGet D.old i).getD (D.xs.getD i ⟨#[]⟩)
def flD (n : Nat) (D : Dk) : List Bool := (List.range n).map (dirt D.old)
theorem flD_at {n : Nat} {D : Dk} {k : Nat} (hk : k < n) : (flD n D).getD k false = dirt D.old k := by
  unfold flD
  rw [List.getD_eq_getElem?_getD, List.getElem?_map, List.getElem?_range hk]
  rfl
theorem thnD_at {n : Nat} {D : Dk} {k : Nat} (hk : k < n) : (thnD n D)[k]? = some ((oldGet D.old k).getD (D.xs.getD k ⟨#[]⟩)) := by
  unfold thnD
  rw [List.getElem?_map, List.getElem?_range hk]
  rfl
theorem xs_at {n : Nat} {D : Dk} (h : D.fine n) {k : Nat} (hk : k < n) : D.xs[k]? = some (D.xs.getD k ⟨#[]⟩) := by
  rw [List.getD_eq_getElem?_getD, List.getElem?_eq_getElem (by rw [h.len]; exact hk)]
  rfl
theorem map_range_ext {α : Type} {n : Nat} {f g : Nat → α} (h : ∀ i, i < n → f i = g i) : (List.range n).map f = (List.range n).map g := List.map_congr_left fun i hi => h i (List.mem_range.1 hi)
theorem thnD_clean {n : Nat} {D : Dk} (h : D.fine n) (ho : D.old = []) : thnD n D = D.xs := by
  refine List.ext_getElem? fun i => ?_
  by_cases hi : i < n
  · rw [thnD_at hi, xs_at h hi, ho]
    rfl
  · rw [List.getElem?_eq_none (by unfold thnD; rw [List.length_map, List.length_range]; omega), List.getElem?_eq_none (by rw [h.len]; omega)]
theorem flD_clean {n : Nat} {D : Dk} (ho : D.old = []) : flD n D = List.replicate n false := by
  unfold flD
  rw [ho]
  refine List.ext_getElem? fun i => ?_
  by_cases hi : i < n
  · rw [List.getElem?_map, List.getElem?_range hi, List.getElem?_replicate, if_pos hi]
    rfl
  · rw [List.getElem?_eq_none (by rw [List.length_map, List.length_range]; omega), List.getElem?_eq_none (by rw [List.length_replicate]; omega)]
theorem thnD_write {n : Nat} {D : Dk} {k : Nat} (s : ByteArray) : thnD n (D.write k s) = thnD n D := by
  refine map_range_ext fun i hi => ?_
  unfold Dk.write
  simp only
  by_cases e : i = k
  · subst e
    cases hd : dirt D.old i with
    | true =>
      obtain ⟨o, ho⟩ := dirt_mem hd
      simp [ho]
    | false =>
      have ho := dirt_no.1 hd
      simp only [Bool.false_eq_true, if_false]
      rw [oldGet_snoc _ ho, if_pos rfl, ho]
      rfl
  · have hx : (D.xs.set k s).getD i ⟨#[]⟩ = D.xs.getD i ⟨#[]⟩ := by
      rw [List.getD_eq_getElem?_getD, List.getD_eq_getElem?_getD, List.getElem?_set_ne (fun h => e h.symm)]
    rw [hx]
    cases hd : dirt D.old k with
    | true => rfl
    | false =>
      simp only [Bool.false_eq_true, if_false]
      rw [oldGet_snoc _ (dirt_no.1 hd), if_neg e]
theorem flD_write {n : Nat} {D : Dk} {k : Nat} (s : ByteArray) (hk : k < n) : flD n (D.write k s) = (flD n D).set k true := by
  have hl : (flD n D).length = n := by unfold flD; rw [List.length_map, List.length_range]
  refine List.ext_getElem? fun i => ?_
  by_cases hi : i < n
  · rw [List.getElem?_set, hl]
    have h1 : (flD n (D.write k s))[i]? = some (dirt (D.write k s).old i) := by unfold flD; rw [List.getElem?_map, List.getElem?_range hi]; rfl
    have h2 : (flD n D)[i]? = some (dirt D.old i) := by unfold flD; rw [List.getElem?_map, List.getElem?_range hi]; rfl
    rw [h1, h2]
    unfold Dk.write
    simp only
    by_cases e : k = i
    · subst e
      rw [if_pos rfl, if_pos hk]
      cases hd : dirt D.old k with
      | true => simp [hd]
      | false =>
        simp only [Bool.false_eq_true, if_false]
        rw [dirt_snoc _ (dirt_no.1 hd)]
        simp
    · rw [if_neg e]
      cases hd : dirt D.old k with
      | true => rfl
      | false =>
        simp only [Bool.false_eq_true, if_false]
        rw [dirt_snoc _ (dirt_no.1 hd), decide_eq_false (fun h => e h.symm), Bool.false_or]
  · rw [List.getElem?_eq_none (by unfold flD; rw [List.length_map, List.length_range]; omega), List.getElem?_eq_none (by rw [List.length_set, hl]; omega)]
abbrev RDisk (w : World) (B x g1 c1 g2 c2 g3 n : Nat) (D : Dk) : Prop := RDiskAt w B x g1 c1 g2 c2 g3 n D.xs (thnD n D) (flD n D)

set_option maxRecDepth 100000 in
set_option maxHeartbeats 400000 in
theorem rdDirty_any {B x g1 c1 g2 c2 g3 n : Nat} {D : Dk} (hD : D.fine n) (w : World) (h : RDisk w B x g1 c1 g2 c2 g3 n D) : Calls Tryz.prog 25 #[.pointer (some ⟨x, 0, none⟩)] w fun e w' => e = .returned (.int .i64 (D.old.length : Int)) ∧ w = w' := by
  have c2 := h.own.cK 2 _ rfl
  have hc := hid (fun k (hk : k < n) => show w.cell? ⟨g3, k, none⟩ = some (.bool (dirt D.old k)) from by have h2 := h.c3_ hk; rw [flD_at hk] at h2; exact h2)
  have hm := h.most
  have hl := hid (rank_len hD.ok)
  clear h
  go_enter Tryz.func25, Tryz.ntmps25
  go_wp2
  go_loop [3, 4] (fun k i => ∃ q : Nat, q ≤ n ∧ i = .int .i64 (q : Int) ∧ k = .int .i64 ((rank D.old q : Nat) : Int)) (fun _ i => n - (intOf i).toNat)
  case atStart => exact ⟨0, Nat.zero_le _, rfl, rfl⟩
  case round =>
    obtain ⟨q, hq, rfl, rfl⟩ := hrel
    have hr := rank_le D.old q
    have hs := rank_succ D.old q
    obtain ⟨y, hy⟩ : ∃ y, rank D.old q = y := ⟨_, rfl⟩
    rw [hy] at hr hs ⊢
    by_cases hlt : q < n
    · have hlt' : (q : Int) < (n : Int) := by omega
      have s3 : (0 : Int) ≤ (q : Int) := by omega
      have w1 := IntWalk.i64_in ((q : Int) + 1) (by omega)
      have w2 := IntWalk.i64_in ((y : Int) + 1) (by omega)
      have cc := hc.out q hlt
      cases hd : dirt D.old q with
      | true =>
        rw [hd] at cc hs
        have hs := hid hs
        clear hd hy
        go_wp2
        go_round
        case rel => exact ⟨q + 1, by omega, by go_num, by rw [hs.out]; go_num⟩
        case measure => simp [intOf]; omega
      | false =>
        rw [hd] at cc hs
        have hs := hid hs
        clear hd hy
        go_wp2
        go_round
        case rel => exact ⟨q + 1, by omega, by go_num, by rw [hs.out]; rfl⟩
        case measure => simp [intOf]; omega
    · obtain rfl : q = n := by omega
      have e := hid (show y = D.old.length from by rw [← hy]; exact hl.out)
      clear hs hy hc
      go_wp2
      go_ret
      exact ⟨congrArg (fun k : Nat => Ending.returned (.int .i64 (k : Int))) e.out, rfl⟩
set_option maxRecDepth 100000 in
set_option maxHeartbeats 1000000 in
theorem rdSync_any {B x g1 c1 g2 c2 g3 n : Nat} {now thn : List ByteArray} {fl : List Bool} (w : World) (h : RDiskAt w B x g1 c1 g2 c2 g3 n now thn fl) : Calls Tryz.prog 17 #[.pointer (some ⟨x, 0, none⟩)] w fun e w' => e = .returned (.tuple #[]) ∧ RDiskAt w' B x g1 c1 g2 c2 g3 n now now (List.replicate n false) ∧ TurnS (RS g1 g2 g3) w w' := by
  have hm := h.most
  have hnt := hid (show now.length = thn.length from by rw [h.nl, h.tl])
  have hff := hid (show (List.replicate n false).length = fl.length from by rw [List.length_replicate, h.fll])
  have hnl := hid h.nl
  have hn12 : ¬ g1 = g2 := h.n12
  have hn21 : ¬ g2 = g1 := fun e => hn12 e.symm
  have hx1 := hid h.x1
  have hx2 := hid h.x2
  have hx3 := hid h.x3
  have hA0 := hid h
  clear h
  obtain ⟨W0, hW0⟩ : ∃ V, V = w := ⟨_, rfl⟩
  rw [← hW0] at hA0 ⊢
  clear hW0
  have hT0 := hid (TurnS.refl (RS g1 g2 g3) W0)
  go_enter Tryz.func17, Tryz.ntmps17
  go_wp2_with fail
  go_loopw [2] (fun ix wr => ∃ q : Nat, q ≤ n ∧ ix = .int .i64 (q : Int) ∧ RDiskAt wr B x g1 c1 g2 c2 g3 n now (mix now thn q) (mix (List.replicate n false) fl q) ∧ TurnS (RS g1 g2 g3) W0 wr) (fun ix _ => n - (intOf ix).toNat)
  case atStart => exact ⟨0, Nat.zero_le _, rfl, hA0.out, hT0.out⟩
  case round =>
    obtain ⟨q, hq, rfl, hAr, hTr⟩ := hrel
    obtain ⟨W10, rfl⟩ : ∃ V, V = wr := ⟨_, rfl⟩
    have hA10 := hid hAr
    have hT10 := hid hTr
    clear hAr hTr hA0 hT0
    have c0 := hA10.out.own.cK 0 _ rfl
    by_cases hlt : q < n
    · have hlt' : (q : Int) < (n : Int) := by omega
      have s3 : (0 : Int) ≤ (q : Int) := by omega
      have w1 := IntWalk.i64_in ((q : Int) + 1) (by omega)
      obtain ⟨s, hs⟩ : ∃ s, now[q]? = some s := ⟨_, List.getElem?_eq_getElem (by rw [hnl.out]; exact hlt)⟩
      have ms := hid (mix_set hs hnt.out)
      have mf := hid (mix_set (a := List.replicate n false) (b := fl) (i := q) (x := false) (by rw [List.getElem?_replicate, if_pos hlt]) hff.out)
      have hs' := hid hs
      have hlt'' := hid hlt
      clear hs hlt
      go_wp2_with fail
      clear c0
      have hb : Below W10.heap.size W10 W10.drew := (Below.refl _ _).drew
      have hA11 := hid (hA10.out.on hb)
      have hT11 := hid (hT10.out.up hb)
      clear hb hA10 hT10
      refine wp_region_held_drew (S := fun V => V.cell? ⟨x, 1, none⟩ = some (.slice (some ⟨g2, 0, none⟩) n c2) ∧ V.cell? ⟨x, 0, none⟩ = some (.slice (some ⟨g1, 0, none⟩) n c1) ∧ V.cell? ⟨g1, q, none⟩ = some (.string s)) (by kernel_rfl) (by exact ⟨hA11.out.own.cK 1 _ rfl, hA11.out.own.cK 0 _ rfl, hA11.out.c1_ hs'.out⟩) (fun hHeld => ?_)
      generalize W10.drew = W11 at *
      refine tkn 0 (.pointer (some ⟨x, 0, none⟩)) rfl (by kernel_rfl) (fun _ _ _ h => h) (yieldsIf_move _ rfl rfl rfl) hHeld ?_
      simp only [ly, Act.put]
      refine tkn 1 (.pointer (some ⟨x, 0, none⟩)) rfl (by kernel_rfl) (fun _ _ _ h => h) (.inl ⟨by kernel_rfl, fun w _ => by go_simp⟩) hHeld ?_
      simp only [ly, Act.put]
      refine tkn 2 (.pointer (some ⟨x, 1, none⟩)) rfl (by kernel_rfl) (fun _ _ _ h => h) (.inl ⟨by kernel_rfl, fun w _ => by go_simp⟩) hHeld ?_
      simp only [ly, Act.put]
      refine tkn 3 (.slice (some ⟨g2, 0, none⟩) n c2) rfl (by kernel_rfl) (fun _ _ _ h => h) (.inl ⟨by kernel_rfl, fun V hS => by have c1 := hS.1; go_simp⟩) hHeld ?_
      simp only [ly, Act.put]
      refine tkn 4 (.int .i64 (q : Int)) rfl (by kernel_rfl) (fun _ _ _ h => h) (yieldsIf_move _ rfl rfl rfl) hHeld ?_
      simp only [ly, Act.put]
      refine tkn 5 (.pointer (some ⟨x, 0, none⟩)) rfl (by kernel_rfl) (fun _ _ _ h => h) (yieldsIf_move _ rfl rfl rfl) hHeld ?_
      simp only [ly, Act.put]
      refine tkn 6 (.pointer (some ⟨x, 0, none⟩)) rfl (by kernel_rfl) (fun _ _ _ h => h) (.inl ⟨by kernel_rfl, fun w _ => by go_simp⟩) hHeld ?_
      simp only [ly, Act.put]
      refine tkn 7 (.pointer (some ⟨x, 0, none⟩)) rfl (by kernel_rfl) (fun _ _ _ h => h) (.inl ⟨by kernel_rfl, fun w _ => by go_simp⟩) hHeld ?_
      simp only [ly, Act.put]
      refine tkn 8 (.slice (some ⟨g1, 0, none⟩) n c1) rfl (by kernel_rfl) (fun _ _ _ h => h) (.inl ⟨by kernel_rfl, fun V hS => by have c0 := hS.2.1; go_simp⟩) hHeld ?_
      simp only [ly, Act.put]
      refine tkn 9 (.int .i64 (q : Int)) rfl (by kernel_rfl) (fun _ _ _ h => h) (yieldsIf_move _ rfl rfl rfl) hHeld ?_
      simp only [ly, Act.put]
      refine tkn 10 (.pointer (some ⟨g1, q, none⟩)) rfl (by kernel_rfl) (fun _ _ _ h => h) (.inl ⟨by kernel_rfl, fun w _ => by go_simp⟩) hHeld ?_
      simp only [ly, Act.put]
      refine tkn 11 (.string s) rfl (by kernel_rfl) (fun _ _ _ h => h) (.inl ⟨by kernel_rfl, fun V hS => by have cs := hS.2.2; go_simp⟩) hHeld ?_
      simp only [ly, Act.put]
      refine tkn 12 (.pointer (some ⟨g2, q, none⟩)) rfl (by kernel_rfl) (fun _ _ _ h => h) (.inl ⟨by kernel_rfl, fun w _ => by go_simp⟩) hHeld ?_
      simp only [ly, Act.put]
      refine wpAnyH_ready (rs := [13]) (by kernel_rfl) (by simp) (AllReadyH.cons rfl (fun K hK => ?_) AllReadyH.nil)
      have hK' := hid hK
      clear hK
      rw [if_pos (by kernel_rfl)]
      simp only [ly1, ly2, ly3]
      obtain ⟨u, cu⟩ : ∃ u, W11.cell? ⟨g2, q, none⟩ = some u := ⟨_, hA11.out.c2_ (List.getElem?_eq_getElem (by rw [hA11.out.tl]; exact hlt''.out))⟩
      have fu := hA11.out.thn.frozenAt q
      go_simp
      obtain ⟨W12, hW⟩ : ∃ V, W11.setCell ⟨g2, q, none⟩ (.string s) = V := ⟨_, rfl⟩
      rw [hW]
      have hA12 := hid (show RDiskAt W12 B x g1 c1 g2 c2 g3 n now (mix now thn (q + 1)) (mix (List.replicate n false) fl q) from by rw [← hW, ← ms.out]; exact hA11.out.set2 q s)
      have hT12 := hid (show TurnS (RS g1 g2 g3) W0 W12 from by rw [← hW]; exact hT11.out.cell _ (.inr (.inl rfl)) _)
      clear hW hA11 hT11
      refine hK'.out _ _ (by exact ⟨hA12.out.own.cK 1 _ rfl, hA12.out.own.cK 0 _ rfl, hA12.out.c1_ hs'.out⟩) (fun hHeld => ?_)
      clear hK' K
      refine wpAnyH_done (by kernel_rfl) ?_ _
      have c2 := hA12.out.own.cK 2 _ rfl
      have cb := hA12.out.c3_ hlt''.out
      have fb := hA12.out.fl_.frozen q
      have hA := hid (hA12.out.set3 q false)
      rw [mf.out] at hA
      have hT := hid (hT12.out.cell ⟨g3, q, none⟩ (.inr (.inr rfl)) (.bool false))
      go_wp2_with fail
      go_roundw
      case rel => exact ⟨q + 1, by have := hlt''.out; omega, by go_num, hA.out, hT.out⟩
      case measure => have := hlt''.out; simp [intOf]; omega
    · obtain rfl : q = n := by omega
      go_wp2_with fail
      go_end0
      have hA := hA10.out
      have e1 := mix_end hnt.out
      have e2 := mix_end hff.out
      rw [← hnt.out, hnl.out] at e1
      rw [← hff.out, List.length_replicate] at e2
      rw [e1, e2] at hA
      exact ⟨rfl, hA, hT10.out⟩


end Go.Proofs.YtmgaegaibglnhaaGreat
namespace Go.Proofs.YtmgaegaibglnhaaGreat
open Go.RowKit
open Go.Lib (strCells strCells_length strCells_oneCell)

theorem crash_xs {n : Nat} {D : Dk} (h : D.fine n) (keep : Int) {i : Nat} (hi : i < n) : (D.crash keep).xs[i]? = some (D.crashAt keep i) := by
  unfold Dk.crash
  rw [List.getElem?_map, List.getElem?_range (by rw [h.len]; exact hi)]
  rfl
theorem crash_old {keep : Int} {D : Dk} {i : Nat} {o : ByteArray} (ho : oldGet D.old i = some o) : D.crashAt keep i = if keepB keep (rank D.old i) then D.xs.getD i ⟨#[]⟩ else o := by
  unfold Dk.crashAt
  rw [ho]

set_option maxRecDepth 100000 in
set_option maxHeartbeats 2000000 in
theorem rdCrash_any {B x g1 c1 g2 c2 g3 n : Nat} (keep : Int) {D : Dk} (hD : D.fine n) (w : World) (h : RDisk w B x g1 c1 g2 c2 g3 n D) : Calls Tryz.prog 19 #[.pointer (some ⟨x, 0, none⟩), .int .i64 keep] w fun e w' => e = .returned (.tuple #[]) ∧ RDisk w' B x g1 c1 g2 c2 g3 n (D.crash keep) ∧ TurnS (RS g1 g2 g3) w w' := by
  have hm := h.most
  have hfin := hid hD
  obtain ⟨C, hC⟩ : ∃ C, (D.crash keep).xs = C := ⟨_, rfl⟩
  have hCx := hid (show C.length = D.xs.length from by rw [← hC, (hD.crash keep).len, hD.len])
  have hCat := hid (fun i (hi : i < n) => show C[i]? = some (D.crashAt keep i) from by rw [← hC]; exact crash_xs hD keep hi)
  have hC' := hid hC
  have hn12 : ¬ g1 = g2 := h.n12
  have hn21 : ¬ g2 = g1 := fun e => hn12 e.symm
  have hA0 := hid (show RDiskAt w B x g1 c1 g2 c2 g3 n (mix C D.xs 0) (thnD n D) (flD n D) from h)
  clear h hC hD
  obtain ⟨W0, hW0⟩ : ∃ V, V = w := ⟨_, rfl⟩
  rw [← hW0] at hA0 ⊢
  clear hW0
  have hT0 := hid (TurnS.refl (RS g1 g2 g3) W0)
  go_enter Tryz.func19, Tryz.ntmps19
  go_wp2_with fail
  go_loopw [4, 5] (fun kx ix wr => ∃ q : Nat, q ≤ n ∧ ix = .int .i64 (q : Int) ∧ kx = .int .i64 ((rank D.old q : Nat) : Int) ∧ RDiskAt wr B x g1 c1 g2 c2 g3 n (mix C D.xs q) (thnD n D) (flD n D) ∧ TurnS (RS g1 g2 g3) W0 wr) (fun _ ix _ => n - (intOf ix).toNat)
  case atStart => exact ⟨0, Nat.zero_le _, rfl, rfl, hA0.out, hT0.out⟩
  case round =>
    obtain ⟨q, hq, rfl, rfl, hAr, hTr⟩ := hrel
    obtain ⟨W10, rfl⟩ : ∃ V, V = wr := ⟨_, rfl⟩
    have hA10 := hid hAr
    have hT10 := hid hTr
    clear hAr hTr hA0 hT0
    have c0 := hA10.out.own.cK 0 _ rfl
    have c2 := hA10.out.own.cK 2 _ rfl
    have hr := rank_le D.old q
    have hs := rank_succ D.old q
    obtain ⟨y, hy⟩ : ∃ y, rank D.old q = y := ⟨_, rfl⟩
    rw [hy] at hr hs ⊢
    by_cases hlt : q < n
    · have hlt' : (q : Int) < (n : Int) := by omega
      have s3 : (0 : Int) ≤ (q : Int) := by omega
      have y0 : (0 : Int) ≤ (y : Int) := by omega
      have w1 := IntWalk.i64_in ((q : Int) + 1) (by omega)
      have w2 := IntWalk.i64_in ((y : Int) + 1) (by omega)
      have hlt'' := hid hlt
      have hx := hid (xs_at hfin.out hlt)
      have cc := hA10.out.c3_ hlt
      rw [flD_at hlt] at cc
      cases hd : dirt D.old q with
      | false =>
        rw [hd] at cc hs
        have hs := hid hs
        have hmx := hid (mix_same (a := C) (b := D.xs) (i := q) (by rw [hCat.out q hlt, hx.out, D.crashAt_no keep hd]) hCx.out)
        clear hd hy hlt
        go_wp2_with fail
        go_roundw
        case rel => exact ⟨q + 1, by have := hlt''.out; omega, by go_num, by rw [hs.out]; rfl, by rw [hmx.out]; exact hA10.out, hT10.out⟩
        case measure => have := hlt''.out; simp [intOf]; omega
      | true =>
        rw [hd] at cc hs
        have hs := hid hs
        obtain ⟨o, ho⟩ := dirt_mem hd
        have hca := crash_old (keep := keep) ho
        rw [hy] at hca
        have hth := hid (show (thnD n D)[q]? = some o from by rw [thnD_at hlt, ho]; rfl)
        rcases keepB_cases keep y with ⟨kb, kt0, kt1, kt2⟩ | ⟨kb, kt0, kt1, kt2⟩ | ⟨kb, kt0, kt1⟩
        · rw [kb, if_pos rfl] at hca
          have hmx := hid (mix_same (a := C) (b := D.xs) (i := q) (by rw [hCat.out q hlt, hx.out, hca]) hCx.out)
          clear kb hd hy hlt ho hca
          go_wp2_with fail
          go_roundw
          case rel => exact ⟨q + 1, by have := hlt''.out; omega, by go_num, by rw [hs.out]; go_num, by rw [hmx.out]; exact hA10.out, hT10.out⟩
          case measure => have := hlt''.out; simp [intOf]; omega
        · rw [kb, if_neg (by decide)] at hca
          have hmx := hid (mix_set (a := C) (b := D.xs) (i := q) (x := o) (by rw [hCat.out q hlt, hca]) hCx.out)
          clear kb hd hy hlt ho hca
          go_wp2_with fail
          clear c0 c2 cc
          have hb : Below W10.heap.size W10 W10.drew := (Below.refl _ _).drew
          have hA11 := hid (hA10.out.on hb)
          have hT11 := hid (hT10.out.up hb)
          clear hb hA10 hT10
          refine wp_region_held_drew (S := fun V => V.cell? ⟨x, 1, none⟩ = some (.slice (some ⟨g2, 0, none⟩) n c2) ∧ V.cell? ⟨x, 0, none⟩ = some (.slice (some ⟨g1, 0, none⟩) n c1) ∧ V.cell? ⟨g2, q, none⟩ = some (.string o)) (by kernel_rfl) (by exact ⟨hA11.out.own.cK 1 _ rfl, hA11.out.own.cK 0 _ rfl, hA11.out.c2_ hth.out⟩) (fun hHeld => ?_)
          generalize W10.drew = W11 at *
          refine tkn 0 (.pointer (some ⟨x, 0, none⟩)) rfl (by kernel_rfl) (fun _ _ _ h => h) (yieldsIf_move _ rfl rfl rfl) hHeld ?_
          simp only [ly, Act.put]
          refine tkn 1 (.pointer (some ⟨x, 0, none⟩)) rfl (by kernel_rfl) (fun _ _ _ h => h) (.inl ⟨by kernel_rfl, fun w _ => by go_simp⟩) hHeld ?_
          simp only [ly, Act.put]
          refine tkn 2 (.pointer (some ⟨x, 0, none⟩)) rfl (by kernel_rfl) (fun _ _ _ h => h) (.inl ⟨by kernel_rfl, fun w _ => by go_simp⟩) hHeld ?_
          simp only [ly, Act.put]
          refine tkn 3 (.slice (some ⟨g1, 0, none⟩) n c1) rfl (by kernel_rfl) (fun _ _ _ h => h) (.inl ⟨by kernel_rfl, fun V hS => by have c0 := hS.2.1; go_simp⟩) hHeld ?_
          simp only [ly, Act.put]
          refine tkn 4 (.int .i64 (q : Int)) rfl (by kernel_rfl) (fun _ _ _ h => h) (yieldsIf_move _ rfl rfl rfl) hHeld ?_
          simp only [ly, Act.put]
          refine tkn 5 (.pointer (some ⟨x, 0, none⟩)) rfl (by kernel_rfl) (fun _ _ _ h => h) (yieldsIf_move _ rfl rfl rfl) hHeld ?_
          simp only [ly, Act.put]
          refine tkn 6 (.pointer (some ⟨x, 0, none⟩)) rfl (by kernel_rfl) (fun _ _ _ h => h) (.inl ⟨by kernel_rfl, fun w _ => by go_simp⟩) hHeld ?_
          simp only [ly, Act.put]
          refine tkn 7 (.pointer (some ⟨x, 1, none⟩)) rfl (by kernel_rfl) (fun _ _ _ h => h) (.inl ⟨by kernel_rfl, fun w _ => by go_simp⟩) hHeld ?_
          simp only [ly, Act.put]
          refine tkn 8 (.slice (some ⟨g2, 0, none⟩) n c2) rfl (by kernel_rfl) (fun _ _ _ h => h) (.inl ⟨by kernel_rfl, fun V hS => by have c1 := hS.1; go_simp⟩) hHeld ?_
          simp only [ly, Act.put]
          refine tkn 9 (.int .i64 (q : Int)) rfl (by kernel_rfl) (fun _ _ _ h => h) (yieldsIf_move _ rfl rfl rfl) hHeld ?_
          simp only [ly, Act.put]
          refine tkn 10 (.pointer (some ⟨g2, q, none⟩)) rfl (by kernel_rfl) (fun _ _ _ h => h) (.inl ⟨by kernel_rfl, fun w _ => by go_simp⟩) hHeld ?_
          simp only [ly, Act.put]
          refine tkn 11 (.string o) rfl (by kernel_rfl) (fun _ _ _ h => h) (.inl ⟨by kernel_rfl, fun V hS => by have cs := hS.2.2; go_simp⟩) hHeld ?_
          simp only [ly, Act.put]
          refine tkn 12 (.pointer (some ⟨g1, q, none⟩)) rfl (by kernel_rfl) (fun _ _ _ h => h) (.inl ⟨by kernel_rfl, fun w _ => by go_simp⟩) hHeld ?_
          simp only [ly, Act.put]
          refine wpAnyH_ready (rs := [13]) (by kernel_rfl) (by simp) (AllReadyH.cons rfl (fun K hK => ?_) AllReadyH.nil)
          have hK' := hid hK
          clear hK
          rw [if_pos (by kernel_rfl)]
          simp only [ly1, ly2, ly3]
          obtain ⟨u, cu⟩ : ∃ u, W11.cell? ⟨g1, q, none⟩ = some u := ⟨_, hA11.out.c1_ (List.getElem?_eq_getElem (by rw [hA11.out.nl]; exact hlt''.out))⟩
          have fu := hA11.out.now.frozenAt q
          go_simp
          obtain ⟨W12, hW⟩ : ∃ V, W11.setCell ⟨g1, q, none⟩ (.string o) = V := ⟨_, rfl⟩
          rw [hW]
          have hA12 := hid (show RDiskAt W12 B x g1 c1 g2 c2 g3 n (mix C D.xs (q + 1)) (thnD n D) (flD n D) from by rw [← hW, ← hmx.out]; exact hA11.out.set1 q o)
          have hT12 := hid (show TurnS (RS g1 g2 g3) W0 W12 from by rw [← hW]; exact hT11.out.cell _ (.inl rfl) _)
          clear hW hA11 hT11
          refine hK'.out _ _ (by exact ⟨hA12.out.own.cK 1 _ rfl, hA12.out.own.cK 0 _ rfl, hA12.out.c2_ hth.out⟩) (fun hHeld => ?_)
          clear hK' K
          refine wpAnyH_done (by kernel_rfl) ?_ _
          go_wp2_with fail
          go_roundw
          case rel => exact ⟨q + 1, by have := hlt''.out; omega, by go_num, by rw [hs.out]; go_num, hA12.out, hT12.out⟩
          case measure => have := hlt''.out; simp [intOf]; omega
        · rw [kb, if_neg (by decide)] at hca
          have hmx := hid (mix_set (a := C) (b := D.xs) (i := q) (x := o) (by rw [hCat.out q hlt, hca]) hCx.out)
          clear kb hd hy hlt ho hca
          go_wp2_with fail
          clear c0 c2 cc
          have hb : Below W10.heap.size W10 W10.drew := (Below.refl _ _).drew
          have hA11 := hid (hA10.out.on hb)
          have hT11 := hid (hT10.out.up hb)
          clear hb hA10 hT10
          refine wp_region_held_drew (S := fun V => V.cell? ⟨x, 1, none⟩ = some (.slice (some ⟨g2, 0, none⟩) n c2) ∧ V.cell? ⟨x, 0, none⟩ = some (.slice (some ⟨g1, 0, none⟩) n c1) ∧ V.cell? ⟨g2, q, none⟩ = some (.string o)) (by kernel_rfl) (by exact ⟨hA11.out.own.cK 1 _ rfl, hA11.out.own.cK 0 _ rfl, hA11.out.c2_ hth.out⟩) (fun hHeld => ?_)
          generalize W10.drew = W11 at *
          refine tkn 0 (.pointer (some ⟨x, 0, none⟩)) rfl (by kernel_rfl) (fun _ _ _ h => h) (yieldsIf_move _ rfl rfl rfl) hHeld ?_
          simp only [ly, Act.put]
          refine tkn 1 (.pointer (some ⟨x, 0, none⟩)) rfl (by kernel_rfl) (fun _ _ _ h => h) (.inl ⟨by kernel_rfl, fun w _ => by go_simp⟩) hHeld ?_
          simp only [ly, Act.put]
          refine tkn 2 (.pointer (some ⟨x, 0, none⟩)) rfl (by kernel_rfl) (fun _ _ _ h => h) (.inl ⟨by kernel_rfl, fun w _ => by go_simp⟩) hHeld ?_
          simp only [ly, Act.put]
          refine tkn 3 (.slice (some ⟨g1, 0, none⟩) n c1) rfl (by kernel_rfl) (fun _ _ _ h => h) (.inl ⟨by kernel_rfl, fun V hS => by have c0 := hS.2.1; go_simp⟩) hHeld ?_
          simp only [ly, Act.put]
          refine tkn 4 (.int .i64 (q : Int)) rfl (by kernel_rfl) (fun _ _ _ h => h) (yieldsIf_move _ rfl rfl rfl) hHeld ?_
          simp only [ly, Act.put]
          refine tkn 5 (.pointer (some ⟨x, 0, none⟩)) rfl (by kernel_rfl) (fun _ _ _ h => h) (yieldsIf_move _ rfl rfl rfl) hHeld ?_
          simp only [ly, Act.put]
          refine tkn 6 (.pointer (some ⟨x, 0, none⟩)) rfl (by kernel_rfl) (fun _ _ _ h => h) (.inl ⟨by kernel_rfl, fun w _ => by go_simp⟩) hHeld ?_
          simp only [ly, Act.put]
          refine tkn 7 (.pointer (some ⟨x, 1, none⟩)) rfl (by kernel_rfl) (fun _ _ _ h => h) (.inl ⟨by kernel_rfl, fun w _ => by go_simp⟩) hHeld ?_
          simp only [ly, Act.put]
          refine tkn 8 (.slice (some ⟨g2, 0, none⟩) n c2) rfl (by kernel_rfl) (fun _ _ _ h => h) (.inl ⟨by kernel_rfl, fun V hS => by have c1 := hS.1; go_simp⟩) hHeld ?_
          simp only [ly, Act.put]
          refine tkn 9 (.int .i64 (q : Int)) rfl (by kernel_rfl) (fun _ _ _ h => h) (yieldsIf_move _ rfl rfl rfl) hHeld ?_
          simp only [ly, Act.put]
          refine tkn 10 (.pointer (some ⟨g2, q, none⟩)) rfl (by kernel_rfl) (fun _ _ _ h => h) (.inl ⟨by kernel_rfl, fun w _ => by go_simp⟩) hHeld ?_
          simp only [ly, Act.put]
          refine tkn 11 (.string o) rfl (by kernel_rfl) (fun _ _ _ h => h) (.inl ⟨by kernel_rfl, fun V hS => by have cs := hS.2.2; go_simp⟩) hHeld ?_
          simp only [ly, Act.put]
          refine tkn 12 (.pointer (some ⟨g1, q, none⟩)) rfl (by kernel_rfl) (fun _ _ _ h => h) (.inl ⟨by kernel_rfl, fun w _ => by go_simp⟩) hHeld ?_
          simp only [ly, Act.put]
          refine wpAnyH_ready (rs := [13]) (by kernel_rfl) (by simp) (AllReadyH.cons rfl (fun K hK => ?_) AllReadyH.nil)
          have hK' := hid hK
          clear hK
          rw [if_pos (by kernel_rfl)]
          simp only [ly1, ly2, ly3]
          obtain ⟨u, cu⟩ : ∃ u, W11.cell? ⟨g1, q, none⟩ = some u := ⟨_, hA11.out.c1_ (List.getElem?_eq_getElem (by rw [hA11.out.nl]; exact hlt''.out))⟩
          have fu := hA11.out.now.frozenAt q
          go_simp
          obtain ⟨W12, hW⟩ : ∃ V, W11.setCell ⟨g1, q, none⟩ (.string o) = V := ⟨_, rfl⟩
          rw [hW]
          have hA12 := hid (show RDiskAt W12 B x g1 c1 g2 c2 g3 n (mix C D.xs (q + 1)) (thnD n D) (flD n D) from by rw [← hW, ← hmx.out]; exact hA11.out.set1 q o)
          have hT12 := hid (show TurnS (RS g1 g2 g3) W0 W12 from by rw [← hW]; exact hT11.out.cell _ (.inl rfl) _)
          clear hW hA11 hT11
          refine hK'.out _ _ (by exact ⟨hA12.out.own.cK 1 _ rfl, hA12.out.own.cK 0 _ rfl, hA12.out.c2_ hth.out⟩) (fun hHeld => ?_)
          clear hK' K
          refine wpAnyH_done (by kernel_rfl) ?_ _
          go_wp2_with fail
          go_roundw
          case rel => exact ⟨q + 1, by have := hlt''.out; omega, by go_num, by rw [hs.out]; go_num, hA12.out, hT12.out⟩
          case measure => have := hlt''.out; simp [intOf]; omega
    · obtain rfl : q = n := by omega
      have e1 := mix_end hCx.out
      rw [hfin.out.len] at e1
      rw [e1] at hA10
      clear e1 hs hy c2
      go_wp2_with fail
      refine (rdSync_any _ hA10.out).mono ?_
      rintro e W20 ⟨rfl, hA, hT⟩
      have hA20 := hid hA
      have hT20 := hid (hT10.out.trans hT)
      clear hA hT
      try (rename_i hKK; refine hKK _ _ ?_; clear hKK)
      go_wp2_with fail
      go_end0
      refine ⟨rfl, ?_, hT20.out⟩
      have hf := hfin.out.crash keep
      show RDiskAt W20 B x g1 c1 g2 c2 g3 q (D.crash keep).xs (thnD q (D.crash keep)) (flD q (D.crash keep))
      rw [thnD_clean hf rfl, flD_clean rfl, hC'.out]
      exact hA20.out


end Go.Proofs.YtmgaegaibglnhaaGreat
namespace Go.Proofs.YtmgaegaibglnhaaGreat
open Go.RowKit
open Go.Lib (strCells strCells_length strCells_oneCell)

theorem Tryz.infoBool : (Tryz.prog.info? 4).map (fun i => (i.zero, i.size, i.bytes)) = some (some (.bool false), 1, 1) := by kernel_rfl
theorem Tryz.infoText : (Tryz.prog.info? 9).map (fun i => (i.zero, i.size, i.bytes)) = some (some (.string ⟨#[]⟩), 1, 16) := by kernel_rfl
theorem made_bools (n : Nat) : madeCells #[.bool false] (n * 1) = (bools (List.replicate n false)).toArray := by
  apply Array.toList_inj.1
  rw [Nat.mul_one, toList_madeCells_one]
  unfold bools
  rw [List.map_replicate]
section
variable {ops : Array Oper} {o : Oper} {a : Act} {w : World} {Q : Exit → Act → World → Prop}
/-- 'make([]bool, n)'. -/
theorem wpList_make_bools {rest : List Oper} (hgd : o.guard = none) (l c : Operand) (hop : o.op = Op.makeSlice 89 l c) (L : Int) (n : Nat) (hl : a.eval l = .int .i64 L) (hc : a.eval c = .int .i64 L) (hL : L = (n : Int)) (hn : n ≤ 1000000000)
    (h : wpList Tryz.prog ops Q rest (a.put o.dst (.slice (some ⟨w.heap.size, 0, none⟩) n n)) (w.alloc (.cells (bools (List.replicate n false)).toArray 4))) : wpList Tryz.prog ops Q (o :: rest) a w := by
  subst hL
  obtain ⟨i, hi, hz, hsize, hby⟩ := info_parts Tryz.infoBool
  have hrun := run_make (P := Tryz.prog) w 89 4 i (.bool false) Tryz.underlying89 hi hz .i64 .i64 (n : Int) (n : Int) (by omega) (by omega) (by rw [hby]; omega) (by omega)
  have hzc : (Value.bool false).cells = #[.bool false] := rfl
  rw [hzc, Int.toNat_natCast, hsize, made_bools] at hrun
  refine wpList_run hgd _ _ ?_ h
  unfold execOp
  simp only [hop, hl, hc, Sem.run_bind, hrun, Result.andThen_ok, Sem.run_pure]
end

theorem new_at7 {W W' : World} {cs : Array Value} {t : TypeId} (h : W.alloc (.cells cs t) = W') : Holds W' W.heap.size t cs.toList ∧ Below W.heap.size W W' := by
  subst h
  exact ⟨Holds.new W t cs, (Below.refl _ _).alloc (Nat.le_refl _) _⟩
theorem row_less {w : World} {B B' n size : Nat} {e : TypeId} {v : Value} {xs : List Value} (h : w.ownsRow B e size v n xs) (hB : B' ≤ B) : w.ownsRow B' e size v n xs := by
  refine ⟨h.1, ?_⟩
  rcases h.2 with hn | ⟨q, cap, cur, hv, hb', rest⟩
  · exact .inl hn
  · exact .inr ⟨q, cap, cur, hv, Nat.le_trans hB hb', rest⟩
/-- The reference's disk while it is made: i sectors in one list, j in the other. -/
structure RNew (w : World) (x g3 n i j : Nat) (A1 : Option Addr) (c1 : Nat) (A2 : Option Addr) (c2 : Nat) (z : ByteArray) : Prop where
  own : Holds w x 92 [.slice A1 i c1, .slice A2 j c2, .slice (some ⟨g3, 0, none⟩) n n]
  r1 : w.ownsRow (x + 1) 9 1 (.slice A1 i c1) i (strs (List.replicate i z))
  r2 : w.ownsRow (x + 1) 9 1 (.slice A2 j c2) j (strs (List.replicate j z))
  ap : ∀ k, (Value.slice A1 i c1).ownBlock = some k → (Value.slice A2 j c2).ownBlock ≠ some k
  fl : Holds w g3 4 (bools (List.replicate n false))
  g3x : g3 < x
section
variable {w W : World} {x g3 n i j : Nat} {A1 A2 : Option Addr} {c1 c2 : Nat} {z : ByteArray}
theorem RNew.on (h : RNew w x g3 n i j A1 c1 A2 c2 z) (hb : Below w.heap.size w W) : RNew W x g3 n i j A1 c1 A2 c2 z :=
  ⟨h.own.below hb h.own.lt, rows_on h.r1 hb, rows_on h.r2 hb, h.ap, h.fl.below hb h.fl.lt, h.g3x⟩
theorem reps (z : ByteArray) (i : Nat) : strs (List.replicate i z) ++ [.string z] = strs (List.replicate (i + 1) z) := by
  rw [List.replicate_succ']
  unfold strs
  rw [List.map_append]
  rfl
theorem RNew.x1 (h : RNew w x g3 n i j A1 c1 A2 c2 z) : some x ≠ (Value.slice A1 i c1).ownBlock := fun e => by have := (h.r1.lt x e.symm).1; omega
theorem RNew.x2 (h : RNew w x g3 n i j A1 c1 A2 c2 z) : some x ≠ (Value.slice A2 j c2).ownBlock := fun e => by have := (h.r2.lt x e.symm).1; omega
theorem RNew.push1 (h : RNew w x g3 n i j A1 c1 A2 c2 z) {W : World} {g cap : Nat} (ho : W.ownsRow (x + 1) 9 1 (.slice (some ⟨g, 0, none⟩) (i + 1) cap) (i + 1) (strs (List.replicate i z) ++ [.string z])) (hg : w.grownBy W (Value.slice A1 i c1).ownBlock)
    (hl : (Value.slice A1 i c1).ownBlock = some g ∨ g = w.heap.size) : Holds W x 92 [.slice A1 i c1, .slice A2 j c2, .slice (some ⟨g3, 0, none⟩) n n] ∧ RNew (W.setCell ⟨x, 0, none⟩ (.slice (some ⟨g, 0, none⟩) (i + 1) cap)) x g3 n (i + 1) j (some ⟨g, 0, none⟩) cap A2 c2 z := by
  have hx := h.own.grown hg h.x1
  have hgx := (ho.lt g rfl).1
  refine ⟨hx, ?_, ?_, ?_, ?_, ?_, h.g3x⟩
  · exact hx.set 0 _
  · rw [reps] at ho
    exact rows_of_blocks ho (fun k e => heap_setCell_other _ _ _ _ (by have e2 : g = k := Option.some.inj e; show k ≠ x; omega))
  · refine rows_of_blocks (rows_of_blocks h.r2 (w' := W) (fun k e => hg.block k (h.r2.lt k e).2 (fun e2 => h.ap k e2.symm e))) (fun k e => heap_setCell_other _ _ _ _ (by have := (h.r2.lt k e).1; show k ≠ x; omega))
  · intro k e
    obtain rfl : g = k := Option.some.inj e
    rcases hl with hl | hl
    · exact h.ap _ hl
    · intro e2
      have := (h.r2.lt _ e2).2
      omega
  · exact (h.fl.grown hg (fun e => by have := (h.r1.lt g3 e.symm).1; have := h.g3x; omega)).far _ (by show g3 ≠ x; have := h.g3x; omega) _
theorem RNew.push2 (h : RNew w x g3 n i j A1 c1 A2 c2 z) {W : World} {g cap : Nat} (ho : W.ownsRow (x + 1) 9 1 (.slice (some ⟨g, 0, none⟩) (j + 1) cap) (j + 1) (strs (List.replicate j z) ++ [.string z])) (hg : w.grownBy W (Value.slice A2 j c2).ownBlock)
    (hl : (Value.slice A2 j c2).ownBlock = some g ∨ g = w.heap.size) : Holds W x 92 [.slice A1 i c1, .slice A2 j c2, .slice (some ⟨g3, 0, none⟩) n n] ∧ RNew (W.setCell ⟨x, 1, none⟩ (.slice (some ⟨g, 0, none⟩) (j + 1) cap)) x g3 n i (j + 1) A1 c1 (some ⟨g, 0, none⟩) cap z := by
  have hx := h.own.grown hg h.x2
  have hgx := (ho.lt g rfl).1
  refine ⟨hx, ?_, ?_, ?_, ?_, ?_, h.g3x⟩
  · exact hx.set 1 _
  · refine rows_of_blocks (rows_of_blocks h.r1 (w' := W) (fun k e => hg.block k (h.r1.lt k e).2 (fun e2 => h.ap k e e2.symm))) (fun k e => heap_setCell_other _ _ _ _ (by have := (h.r1.lt k e).1; show k ≠ x; omega))
  · rw [reps] at ho
    exact rows_of_blocks ho (fun k e => heap_setCell_other _ _ _ _ (by have e2 : g = k := Option.some.inj e; show k ≠ x; omega))
  · intro k e e2
    obtain rfl : g = k := Option.some.inj e2
    rcases hl with hl | hl
    · exact h.ap _ e hl
    · have := (h.r1.lt _ e).2
      omega
  · exact (h.fl.grown hg (fun e => by have := (h.r2.lt g3 e.symm).1; have := h.g3x; omega)).far _ (by show g3 ≠ x; have := h.g3x; omega) _
end
set_option maxRecDepth 100000 in
theorem rdNew_no (n : Int) (h : ¬ (1 ≤ n ∧ n ≤ 256)) (w : World) : Calls Tryz.prog 10 #[.int .i64 n] w fun e w' => e = .returned (.tuple #[.pointer none, .int .i64 700]) ∧ w' = w := by
  by_cases h1 : n < 1
  · go_enter Tryz.func10, Tryz.ntmps10
    go_wp2
    go_ret2
    exact ⟨rfl, rfl⟩
  · have h2 : 256 < n := by omega
    go_enter Tryz.func10, Tryz.ntmps10
    go_wp2
    go_ret2
    exact ⟨rfl, rfl⟩
set_option maxRecDepth 100000 in
set_option maxHeartbeats 2000000 in
theorem rdNew_yes (n : Nat) (h1 : 1 ≤ n) (h2 : n ≤ 256) (w : World) : Calls Tryz.prog 10 #[.int .i64 (n : Int)] w fun e w' => ∃ g1 c1 g2 c2, e = .returned (.tuple #[.pointer (some ⟨w.heap.size + 1, 0, none⟩), .int .i64 0]) ∧ RDisk w' w.heap.size (w.heap.size + 1) g1 c1 g2 c2 w.heap.size n (Dk.new n) ∧ Below w.heap.size w w' := by
  have h3 : ¬ (n : Int) < 1 := by omega
  have h4 : ¬ (256 : Int) < (n : Int) := by omega
  obtain ⟨z, hz⟩ : ∃ z, zeroS 64 = z := ⟨_, rfl⟩
  have hz64 := hid (show z.size = 64 from by rw [← hz]; exact zeroS_size 64)
  have hzc := hid (show zSc.toList = strCells z from by rw [← hz]; exact zSc_list)
  have hz' := hid hz
  obtain ⟨it, hit, hitz, hits, hitb⟩ := info_parts Tryz.infoText
  have hit' := hid hit
  have hitz' := hid hitz
  have hits' := hid hits
  have hitb' := hid hitb
  clear hz hit hitz hits hitb
  obtain ⟨bc, hbc⟩ : ∃ cs, (bools (List.replicate n false)).toArray = cs := ⟨_, rfl⟩
  obtain ⟨W0, hW0⟩ : ∃ W0, (w.alloc (.cells bc 4)).alloc (.cells #[.slice none 0 0, .slice none 0 0, .slice (some ⟨w.heap.size, 0, none⟩) n n] 92) = W0 := ⟨_, rfl⟩
  have hs1 : (w.alloc (.cells bc 4)).heap.size = w.heap.size + 1 := by simp
  have hA0 := hid (show RNew W0 (w.heap.size + 1) w.heap.size n 0 0 none 0 none 0 z from by
    have hF := (Holds.new w 4 bc).alloc (.cells #[.slice none 0 0, .slice none 0 0, .slice (some ⟨w.heap.size, 0, none⟩) n n] 92)
    have hX := Holds.new (w.alloc (.cells bc 4)) 92 #[.slice none 0 0, .slice none 0 0, .slice (some ⟨w.heap.size, 0, none⟩) n n]
    rw [hs1] at hX
    rw [hW0] at hF hX
    rw [← hbc] at hF
    exact ⟨hX, ⟨rfl, .inl ⟨rfl, rfl⟩⟩, ⟨rfl, .inl ⟨rfl, rfl⟩⟩, (fun k e => by cases e), hF, Nat.lt_succ_self _⟩)
  have hB0 := hid (show Below w.heap.size w W0 from by rw [← hW0]; exact ((Below.refl _ _).alloc (Nat.le_refl _) _).alloc (by simp) _)
  have hW0' := hid hW0
  have hbc' := hid hbc
  obtain ⟨g3, hg3⟩ : ∃ g, w.heap.size = g := ⟨_, rfl⟩
  obtain ⟨x, hx⟩ : ∃ x, w.heap.size + 1 = x := ⟨_, rfl⟩
  rw [hx, hg3] at hA0
  have hg3' := hid hg3
  have hx' := hid hx
  have h2' := hid h2
  clear hW0 hbc h2 hg3 hx hs1
  go_enter Tryz.func10, Tryz.ntmps10
  go_wp2_with (first
    | ((with_reducible refine at_slot (some 13) ?_); refine wpList_make_bools rfl (.tmp 12) (.tmp 12) rfl (n : Int) n rfl rfl rfl (by have := h2'.out; omega) ?_; rw [hbc'.out])
    | ((with_reducible refine at_slot (some 15) ?_); refine wpList_run rfl (.pointer (some ⟨(w.alloc (.cells bc 4)).heap.size, 0, none⟩)) ((w.alloc (.cells bc 4)).alloc (.cells #[.slice none 0 0, .slice none 0 0, .slice (some ⟨w.heap.size, 0, none⟩) n n] 92)) (by kernel_rfl) ?_; rw [hW0'.out])
    | fail)
  simp only [hx'.out]
  go_loopw [5] (fun ix wr => ∃ (i : Nat) (A1 : Option Addr) (c1 : Nat) (A2 : Option Addr) (c2 : Nat), i ≤ n ∧ ix = .int .i64 (i : Int) ∧ RNew wr x g3 n i i A1 c1 A2 c2 z ∧ Below w.heap.size w wr) (fun ix _ => n - (intOf ix).toNat)
  case atStart => exact ⟨0, _, _, _, _, Nat.zero_le _, rfl, hA0.out, hB0.out⟩
  case round =>
    obtain ⟨i, A1, c1, A2, c2, hi, rfl, hAr, hBr⟩ := hrel
    obtain ⟨W10, rfl⟩ : ∃ V, V = wr := ⟨_, rfl⟩
    have hA10 := hid hAr
    have hB10 := hid hBr
    clear hAr hBr hA0 hB0
    by_cases hlt : i < n
    · have hlt' : (i : Int) < (n : Int) := by omega
      have s3 : (0 : Int) ≤ (i : Int) := by omega
      have hn := h2'.out
      have w1 := IntWalk.i64_in ((i : Int) + 1) (by omega)
      have hi1 := hid (show i + 1 ≤ 1000000 from by omega)
      have hlt'' := hid hlt
      clear hn hlt
      go_wp2_with fail
      skip
      have hb : Below W10.heap.size W10 W10.drew := (Below.refl _ _).drew
      have hA11 := hid (hA10.out.on hb)
      have hB11 := hid (bup hb hB10.out)
      clear hb hA10 hB10
      refine wp_region_held_drew (S := fun _ => True) (by kernel_rfl) (by exact trivial) (fun hHeld => ?_)
      generalize W10.drew = W11 at *
      refine tkn 0 (.pointer (some ⟨x, 0, none⟩)) rfl (by kernel_rfl) (fun _ _ _ h => h) (yieldsIf_move _ rfl rfl rfl) hHeld ?_
      simp only [ly, Act.put]
      refine tkn 1 (.pointer (some ⟨x, 0, none⟩)) rfl (by kernel_rfl) (fun _ _ _ h => h) (yieldsIf_move _ rfl rfl rfl) hHeld ?_
      simp only [ly, Act.put]
      refine tkn 2 (.pointer (some ⟨x, 0, none⟩)) rfl (by kernel_rfl) (fun _ _ _ h => h) (.inl ⟨by kernel_rfl, fun w _ => by go_simp⟩) hHeld ?_
      simp only [ly, Act.put]
      refine tkn 3 (.pointer (some ⟨x, 0, none⟩)) rfl (by kernel_rfl) (fun _ _ _ h => h) (.inl ⟨by kernel_rfl, fun w _ => by go_simp⟩) hHeld ?_
      simp only [ly, Act.put]
      refine wpAnyH_ready (rs := [4, 5]) (by kernel_rfl) (by simp) (AllReadyH.cons rfl (fun K hK => ?_) (AllReadyH.cons rfl (fun K hK => ?_) AllReadyH.nil))
      · skip
        have hK' := hid hK
        clear hK
        rw [if_pos (by kernel_rfl)]
        simp only [ly1, ly2, ly3]
        have cx := hA11.out.own.cK 0 _ rfl
        go_simp
        clear cx
        refine hK'.out _ _ (by exact trivial) (fun hHeld => ?_)
        clear hK' K
        refine wpAnyH_ready (rs := [5]) (by kernel_rfl) (by simp) (AllReadyH.cons rfl (fun K hK => ?_) AllReadyH.nil)
        have hK' := hid hK
        clear hK
        rw [if_pos (by kernel_rfl)]
        simp only [ly1, ly2, ly3]
        refine wp_run' (.slice (some ⟨W11.heap.size, 0, none⟩) 64 64) (W11.alloc (.cells zSc 5)) (by kernel_rfl) ?_
        obtain ⟨gz7, hgz⟩ : ∃ g, W11.heap.size = g := ⟨_, rfl⟩
        generalize hW : World.alloc _ _ = W12
        obtain ⟨hN, hb⟩ := new_at7 hW
        rw [hgz] at hN ⊢
        clear hW hgz
        have hA12 := hid (hA11.out.on hb)
        have hB12 := hid (bup hb hB11.out)
        have hZ12 := hid hN
        clear hb hA11 hB11 hN
        refine hK'.out _ _ (by exact trivial) (fun hHeld => ?_)
        clear hK' K
        refine wpAnyH_ready (rs := [6]) (by kernel_rfl) (by simp) (AllReadyH.cons rfl (fun K hK => ?_) AllReadyH.nil)
        have hK' := hid hK
        clear hK
        rw [if_pos (by kernel_rfl)]
        simp only [ly1, ly2, ly3]
        refine wp_conv 82 9 (.tmp 26) rfl (.slice (some ⟨gz7, 0, none⟩) 64 64) (.string z) _ rfl (by exact run_convert_block (P := Tryz.prog) (t := 5) (e := 5) 82 9 Tryz.underlying82 Tryz.underlying5 Tryz.underlying9 (g := gz7) (c := 64) (n := 64) (s := z) hz64.out.symm hZ12.out (by exact hzc.out)) ?_
        refine hK'.out _ _ (by exact trivial) (fun hHeld => ?_)
        clear hK' K
        refine wpAnyH_ready (rs := [7]) (by kernel_rfl) (by simp) (AllReadyH.cons rfl (fun K hK => ?_) AllReadyH.nil)
        have hK' := hid hK
        clear hK
        rw [if_pos (by kernel_rfl)]
        simp only [ly1, ly2, ly3]
        refine wp_run' (.slice (some ⟨W12.heap.size, 0, none⟩) 1 1) (W12.alloc (.cells #[.string z] 9)) (by kernel_rfl) ?_
        obtain ⟨gn7, hgn⟩ : ∃ g, W12.heap.size = g := ⟨_, rfl⟩
        generalize hW : World.alloc _ _ = W13
        obtain ⟨hN, hb⟩ := new_at7 hW
        rw [hgn] at hN ⊢
        clear hW hgn
        have hA13 := hid (hA12.out.on hb)
        have hB13 := hid (bup hb hB12.out)
        have hZ13 := hid (hZ12.out.below hb hZ12.out.lt)
        have hN13 := hid hN
        clear hb hA12 hB12 hZ12 hN
        refine hK'.out _ _ (by exact trivial) (fun hHeld => ?_)
        clear hK' K
        refine wpAnyH_ready (rs := [8]) (by kernel_rfl) (by simp) (AllReadyH.cons rfl (fun K hK => ?_) AllReadyH.nil)
        have hK' := hid hK
        clear hK
        rw [if_pos (by kernel_rfl)]
        simp only [ly1, ly2, ly3]
        refine wp_append_lies W13 (.tmp 25) (.tmp 28) 90 rfl (x + 1) 9 it (.string ⟨#[]⟩) 1 16 Tryz.underlying90 hit'.out hitz'.out hits'.out hitb'.out rfl (by decide) (.slice A1 i c1) i (strs (List.replicate i z)) rfl hA13.out.r1 ⟨gn7, 0, none⟩ 1 1 [.string z] rfl rfl (by intro j u hu; match j, hu with | 0, hu => (obtain rfl := Option.some.inj hu; exact hN13.out.cK 0 _ rfl)) (by intro u hu; rw [List.mem_singleton.1 hu]; rfl) (by decide) (by unfold maxLen; have := hi1.out; omega) (by have := hi1.out; omega) (by have := hA13.out.own.lt; omega) _ rfl ?_
        intro g7 cap7 W14 ho hg hl _
        have hp := hA13.out.push1 ho hg hl
        have hX14 := hid hp.1
        have hP14 := hid hp.2
        have hB14 := hid (hB13.out.grown hg hB13.out.size (fun k e => by have h1 := (hA13.out.r1.lt k e).1; have h2 := hx'.out; omega))
        clear hp ho hg hl hA13 hB13 hZ13 hN13
        refine hK'.out _ _ (by exact trivial) (fun hHeld => ?_)
        clear hK' K
        refine tkn 9 (.pointer (some ⟨x, 0, none⟩)) rfl (by kernel_rfl) (fun _ _ _ h => h) (.inl ⟨by kernel_rfl, fun w _ => by go_simp⟩) hHeld ?_
        simp only [ly, Act.put]
        refine tkn 10 (.pointer (some ⟨x, 0, none⟩)) rfl (by kernel_rfl) (fun _ _ _ h => h) (.inl ⟨by kernel_rfl, fun w _ => by go_simp⟩) hHeld ?_
        simp only [ly, Act.put]
        refine wpAnyH_ready (rs := [11]) (by kernel_rfl) (by simp) (AllReadyH.cons rfl (fun K hK => ?_) AllReadyH.nil)
        have hK' := hid hK
        clear hK
        rw [if_pos (by kernel_rfl)]
        simp only [ly1, ly2, ly3]
        have cx := hX14.out.cK 0 _ rfl
        have fx := hX14.out.frozen 0
        have hBx := hid (hB14.out.setCell (p := ⟨x, 0, none⟩) (by show w.heap.size ≤ x; have := hx'.out; omega) (.slice (some ⟨g7, 0, none⟩) (i + 1) cap7))
        go_simp
        obtain ⟨W15, hW⟩ : ∃ V, W14.setCell ⟨x, 0, none⟩ (.slice (some ⟨g7, 0, none⟩) (i + 1) cap7) = V := ⟨_, rfl⟩
        rw [hW] at hP14 hBx ⊢
        have hA15 := hid hP14.out
        have hB15 := hid hBx.out
        clear hW hX14 hP14 hBx hB14 cx fx
        refine hK'.out _ _ (by exact trivial) (fun hHeld => ?_)
        clear hK' K
        refine wpAnyH_done (by kernel_rfl) ?_ _
        go_wp2_with fail
        skip
        have hb : Below W15.heap.size W15 W15.drew := (Below.refl _ _).drew
        have hA16 := hid (hA15.out.on hb)
        have hB16 := hid (bup hb hB15.out)
        clear hb hA15 hB15
        refine wp_region_held_drew (S := fun _ => True) (by kernel_rfl) (by exact trivial) (fun hHeld => ?_)
        generalize W15.drew = W16 at *
        refine tkn 0 (.pointer (some ⟨x, 0, none⟩)) rfl (by kernel_rfl) (fun _ _ _ h => h) (yieldsIf_move _ rfl rfl rfl) hHeld ?_
        simp only [ly, Act.put]
        refine tkn 1 (.pointer (some ⟨x, 0, none⟩)) rfl (by kernel_rfl) (fun _ _ _ h => h) (yieldsIf_move _ rfl rfl rfl) hHeld ?_
        simp only [ly, Act.put]
        refine tkn 2 (.pointer (some ⟨x, 0, none⟩)) rfl (by kernel_rfl) (fun _ _ _ h => h) (.inl ⟨by kernel_rfl, fun w _ => by go_simp⟩) hHeld ?_
        simp only [ly, Act.put]
        refine tkn 3 (.pointer (some ⟨x, 1, none⟩)) rfl (by kernel_rfl) (fun _ _ _ h => h) (.inl ⟨by kernel_rfl, fun w _ => by go_simp⟩) hHeld ?_
        simp only [ly, Act.put]
        refine wpAnyH_ready (rs := [4, 5]) (by kernel_rfl) (by simp) (AllReadyH.cons rfl (fun K hK => ?_) (AllReadyH.cons rfl (fun K hK => ?_) AllReadyH.nil))
        · skip
          have hK' := hid hK
          clear hK
          rw [if_pos (by kernel_rfl)]
          simp only [ly1, ly2, ly3]
          have cx := hA16.out.own.cK 1 _ rfl
          go_simp
          clear cx
          refine hK'.out _ _ (by exact trivial) (fun hHeld => ?_)
          clear hK' K
          refine wpAnyH_ready (rs := [5]) (by kernel_rfl) (by simp) (AllReadyH.cons rfl (fun K hK => ?_) AllReadyH.nil)
          have hK' := hid hK
          clear hK
          rw [if_pos (by kernel_rfl)]
          simp only [ly1, ly2, ly3]
          refine wp_run' (.slice (some ⟨W16.heap.size, 0, none⟩) 64 64) (W16.alloc (.cells zSc 5)) (by kernel_rfl) ?_
          obtain ⟨gz8, hgz⟩ : ∃ g, W16.heap.size = g := ⟨_, rfl⟩
          generalize hW : World.alloc _ _ = W17
          obtain ⟨hN, hb⟩ := new_at7 hW
          rw [hgz] at hN ⊢
          clear hW hgz
          have hA17 := hid (hA16.out.on hb)
          have hB17 := hid (bup hb hB16.out)
          have hZ17 := hid hN
          clear hb hA16 hB16 hN
          refine hK'.out _ _ (by exact trivial) (fun hHeld => ?_)
          clear hK' K
          refine wpAnyH_ready (rs := [6]) (by kernel_rfl) (by simp) (AllReadyH.cons rfl (fun K hK => ?_) AllReadyH.nil)
          have hK' := hid hK
          clear hK
          rw [if_pos (by kernel_rfl)]
          simp only [ly1, ly2, ly3]
          refine wp_conv 82 9 (.tmp 37) rfl (.slice (some ⟨gz8, 0, none⟩) 64 64) (.string z) _ rfl (by exact run_convert_block (P := Tryz.prog) (t := 5) (e := 5) 82 9 Tryz.underlying82 Tryz.underlying5 Tryz.underlying9 (g := gz8) (c := 64) (n := 64) (s := z) hz64.out.symm hZ17.out (by exact hzc.out)) ?_
          refine hK'.out _ _ (by exact trivial) (fun hHeld => ?_)
          clear hK' K
          refine wpAnyH_ready (rs := [7]) (by kernel_rfl) (by simp) (AllReadyH.cons rfl (fun K hK => ?_) AllReadyH.nil)
          have hK' := hid hK
          clear hK
          rw [if_pos (by kernel_rfl)]
          simp only [ly1, ly2, ly3]
          refine wp_run' (.slice (some ⟨W17.heap.size, 0, none⟩) 1 1) (W17.alloc (.cells #[.string z] 9)) (by kernel_rfl) ?_
          obtain ⟨gn8, hgn⟩ : ∃ g, W17.heap.size = g := ⟨_, rfl⟩
          generalize hW : World.alloc _ _ = W18
          obtain ⟨hN, hb⟩ := new_at7 hW
          rw [hgn] at hN ⊢
          clear hW hgn
          have hA18 := hid (hA17.out.on hb)
          have hB18 := hid (bup hb hB17.out)
          have hZ18 := hid (hZ17.out.below hb hZ17.out.lt)
          have hN18 := hid hN
          clear hb hA17 hB17 hZ17 hN
          refine hK'.out _ _ (by exact trivial) (fun hHeld => ?_)
          clear hK' K
          refine wpAnyH_ready (rs := [8]) (by kernel_rfl) (by simp) (AllReadyH.cons rfl (fun K hK => ?_) AllReadyH.nil)
          have hK' := hid hK
          clear hK
          rw [if_pos (by kernel_rfl)]
          simp only [ly1, ly2, ly3]
          refine wp_append_lies W18 (.tmp 36) (.tmp 39) 90 rfl (x + 1) 9 it (.string ⟨#[]⟩) 1 16 Tryz.underlying90 hit'.out hitz'.out hits'.out hitb'.out rfl (by decide) (.slice A2 i c2) i (strs (List.replicate i z)) rfl hA18.out.r2 ⟨gn8, 0, none⟩ 1 1 [.string z] rfl rfl (by intro j u hu; match j, hu with | 0, hu => (obtain rfl := Option.some.inj hu; exact hN18.out.cK 0 _ rfl)) (by intro u hu; rw [List.mem_singleton.1 hu]; rfl) (by decide) (by unfold maxLen; have := hi1.out; omega) (by have := hi1.out; omega) (by have := hA18.out.own.lt; omega) _ rfl ?_
          intro g8 cap8 W19 ho hg hl _
          have hp := hA18.out.push2 ho hg hl
          have hX19 := hid hp.1
          have hP19 := hid hp.2
          have hB19 := hid (hB18.out.grown hg hB18.out.size (fun k e => by have h1 := (hA18.out.r2.lt k e).1; have h2 := hx'.out; omega))
          clear hp ho hg hl hA18 hB18 hZ18 hN18
          refine hK'.out _ _ (by exact trivial) (fun hHeld => ?_)
          clear hK' K
          refine tkn 9 (.pointer (some ⟨x, 0, none⟩)) rfl (by kernel_rfl) (fun _ _ _ h => h) (.inl ⟨by kernel_rfl, fun w _ => by go_simp⟩) hHeld ?_
          simp only [ly, Act.put]
          refine tkn 10 (.pointer (some ⟨x, 1, none⟩)) rfl (by kernel_rfl) (fun _ _ _ h => h) (.inl ⟨by kernel_rfl, fun w _ => by go_simp⟩) hHeld ?_
          simp only [ly, Act.put]
          refine wpAnyH_ready (rs := [11]) (by kernel_rfl) (by simp) (AllReadyH.cons rfl (fun K hK => ?_) AllReadyH.nil)
          have hK' := hid hK
          clear hK
          rw [if_pos (by kernel_rfl)]
          simp only [ly1, ly2, ly3]
          have cx := hX19.out.cK 1 _ rfl
          have fx := hX19.out.frozen 1
          have hBx := hid (hB19.out.setCell (p := ⟨x, 1, none⟩) (by show w.heap.size ≤ x; have := hx'.out; omega) (.slice (some ⟨g8, 0, none⟩) (i + 1) cap8))
          go_simp
          obtain ⟨W20, hW⟩ : ∃ V, W19.setCell ⟨x, 1, none⟩ (.slice (some ⟨g8, 0, none⟩) (i + 1) cap8) = V := ⟨_, rfl⟩
          rw [hW] at hP19 hBx ⊢
          have hA20 := hid hP19.out
          have hB20 := hid hBx.out
          clear hW hX19 hP19 hBx hB19 cx fx
          refine hK'.out _ _ (by exact trivial) (fun hHeld => ?_)
          clear hK' K
          refine wpAnyH_done (by kernel_rfl) ?_ _
          go_wp2_with fail
          go_roundw
          case rel => exact ⟨i + 1, _, _, _, _, by have := hlt''.out; omega, by go_num, hA20.out, hB20.out⟩
          case measure => have := hlt''.out; simp [intOf]; omega
        · skip
          have hK' := hid hK
          clear hK
          rw [if_pos (by kernel_rfl)]
          simp only [ly1, ly2, ly3]
          refine wp_run' (.slice (some ⟨W16.heap.size, 0, none⟩) 64 64) (W16.alloc (.cells zSc 5)) (by kernel_rfl) ?_
          obtain ⟨gz8, hgz⟩ : ∃ g, W16.heap.size = g := ⟨_, rfl⟩
          generalize hW : World.alloc _ _ = W17
          obtain ⟨hN, hb⟩ := new_at7 hW
          rw [hgz] at hN ⊢
          clear hW hgz
          have hA17 := hid (hA16.out.on hb)
          have hB17 := hid (bup hb hB16.out)
          have hZ17 := hid hN
          clear hb hA16 hB16 hN
          refine hK'.out _ _ (by exact trivial) (fun hHeld => ?_)
          clear hK' K
          refine wpAnyH_ready (rs := [4, 6]) (by kernel_rfl) (by simp) (AllReadyH.cons rfl (fun K hK => ?_) (AllReadyH.cons rfl (fun K hK => ?_) AllReadyH.nil))
          · skip
            have hK' := hid hK
            clear hK
            rw [if_pos (by kernel_rfl)]
            simp only [ly1, ly2, ly3]
            have cx := hA17.out.own.cK 1 _ rfl
            go_simp
            clear cx
            refine hK'.out _ _ (by exact trivial) (fun hHeld => ?_)
            clear hK' K
            refine wpAnyH_ready (rs := [6]) (by kernel_rfl) (by simp) (AllReadyH.cons rfl (fun K hK => ?_) AllReadyH.nil)
            have hK' := hid hK
            clear hK
            rw [if_pos (by kernel_rfl)]
            simp only [ly1, ly2, ly3]
            refine wp_conv 82 9 (.tmp 37) rfl (.slice (some ⟨gz8, 0, none⟩) 64 64) (.string z) _ rfl (by exact run_convert_block (P := Tryz.prog) (t := 5) (e := 5) 82 9 Tryz.underlying82 Tryz.underlying5 Tryz.underlying9 (g := gz8) (c := 64) (n := 64) (s := z) hz64.out.symm hZ17.out (by exact hzc.out)) ?_
            refine hK'.out _ _ (by exact trivial) (fun hHeld => ?_)
            clear hK' K
            refine wpAnyH_ready (rs := [7]) (by kernel_rfl) (by simp) (AllReadyH.cons rfl (fun K hK => ?_) AllReadyH.nil)
            have hK' := hid hK
            clear hK
            rw [if_pos (by kernel_rfl)]
            simp only [ly1, ly2, ly3]
            refine wp_run' (.slice (some ⟨W17.heap.size, 0, none⟩) 1 1) (W17.alloc (.cells #[.string z] 9)) (by kernel_rfl) ?_
            obtain ⟨gn8, hgn⟩ : ∃ g, W17.heap.size = g := ⟨_, rfl⟩
            generalize hW : World.alloc _ _ = W18
            obtain ⟨hN, hb⟩ := new_at7 hW
            rw [hgn] at hN ⊢
            clear hW hgn
            have hA18 := hid (hA17.out.on hb)
            have hB18 := hid (bup hb hB17.out)
            have hZ18 := hid (hZ17.out.below hb hZ17.out.lt)
            have hN18 := hid hN
            clear hb hA17 hB17 hZ17 hN
            refine hK'.out _ _ (by exact trivial) (fun hHeld => ?_)
            clear hK' K
            refine wpAnyH_ready (rs := [8]) (by kernel_rfl) (by simp) (AllReadyH.cons rfl (fun K hK => ?_) AllReadyH.nil)
            have hK' := hid hK
            clear hK
            rw [if_pos (by kernel_rfl)]
            simp only [ly1, ly2, ly3]
            refine wp_append_lies W18 (.tmp 36) (.tmp 39) 90 rfl (x + 1) 9 it (.string ⟨#[]⟩) 1 16 Tryz.underlying90 hit'.out hitz'.out hits'.out hitb'.out rfl (by decide) (.slice A2 i c2) i (strs (List.replicate i z)) rfl hA18.out.r2 ⟨gn8, 0, none⟩ 1 1 [.string z] rfl rfl (by intro j u hu; match j, hu with | 0, hu => (obtain rfl := Option.some.inj hu; exact hN18.out.cK 0 _ rfl)) (by intro u hu; rw [List.mem_singleton.1 hu]; rfl) (by decide) (by unfold maxLen; have := hi1.out; omega) (by have := hi1.out; omega) (by have := hA18.out.own.lt; omega) _ rfl ?_
            intro g8 cap8 W19 ho hg hl _
            have hp := hA18.out.push2 ho hg hl
            have hX19 := hid hp.1
            have hP19 := hid hp.2
            have hB19 := hid (hB18.out.grown hg hB18.out.size (fun k e => by have h1 := (hA18.out.r2.lt k e).1; have h2 := hx'.out; omega))
            clear hp ho hg hl hA18 hB18 hZ18 hN18
            refine hK'.out _ _ (by exact trivial) (fun hHeld => ?_)
            clear hK' K
            refine tkn 9 (.pointer (some ⟨x, 0, none⟩)) rfl (by kernel_rfl) (fun _ _ _ h => h) (.inl ⟨by kernel_rfl, fun w _ => by go_simp⟩) hHeld ?_
            simp only [ly, Act.put]
            refine tkn 10 (.pointer (some ⟨x, 1, none⟩)) rfl (by kernel_rfl) (fun _ _ _ h => h) (.inl ⟨by kernel_rfl, fun w _ => by go_simp⟩) hHeld ?_
            simp only [ly, Act.put]
            refine wpAnyH_ready (rs := [11]) (by kernel_rfl) (by simp) (AllReadyH.cons rfl (fun K hK => ?_) AllReadyH.nil)
            have hK' := hid hK
            clear hK
            rw [if_pos (by kernel_rfl)]
            simp only [ly1, ly2, ly3]
            have cx := hX19.out.cK 1 _ rfl
            have fx := hX19.out.frozen 1
            have hBx := hid (hB19.out.setCell (p := ⟨x, 1, none⟩) (by show w.heap.size ≤ x; have := hx'.out; omega) (.slice (some ⟨g8, 0, none⟩) (i + 1) cap8))
            go_simp
            obtain ⟨W20, hW⟩ : ∃ V, W19.setCell ⟨x, 1, none⟩ (.slice (some ⟨g8, 0, none⟩) (i + 1) cap8) = V := ⟨_, rfl⟩
            rw [hW] at hP19 hBx ⊢
            have hA20 := hid hP19.out
            have hB20 := hid hBx.out
            clear hW hX19 hP19 hBx hB19 cx fx
            refine hK'.out _ _ (by exact trivial) (fun hHeld => ?_)
            clear hK' K
            refine wpAnyH_done (by kernel_rfl) ?_ _
            go_wp2_with fail
            go_roundw
            case rel => exact ⟨i + 1, _, _, _, _, by have := hlt''.out; omega, by go_num, hA20.out, hB20.out⟩
            case measure => have := hlt''.out; simp [intOf]; omega
          · skip
            have hK' := hid hK
            clear hK
            rw [if_pos (by kernel_rfl)]
            simp only [ly1, ly2, ly3]
            refine wp_conv 82 9 (.tmp 37) rfl (.slice (some ⟨gz8, 0, none⟩) 64 64) (.string z) _ rfl (by exact run_convert_block (P := Tryz.prog) (t := 5) (e := 5) 82 9 Tryz.underlying82 Tryz.underlying5 Tryz.underlying9 (g := gz8) (c := 64) (n := 64) (s := z) hz64.out.symm hZ17.out (by exact hzc.out)) ?_
            refine hK'.out _ _ (by exact trivial) (fun hHeld => ?_)
            clear hK' K
            refine wpAnyH_ready (rs := [4, 7]) (by kernel_rfl) (by simp) (AllReadyH.cons rfl (fun K hK => ?_) (AllReadyH.cons rfl (fun K hK => ?_) AllReadyH.nil))
            · skip
              have hK' := hid hK
              clear hK
              rw [if_pos (by kernel_rfl)]
              simp only [ly1, ly2, ly3]
              have cx := hA17.out.own.cK 1 _ rfl
              go_simp
              clear cx
              refine hK'.out _ _ (by exact trivial) (fun hHeld => ?_)
              clear hK' K
              refine wpAnyH_ready (rs := [7]) (by kernel_rfl) (by simp) (AllReadyH.cons rfl (fun K hK => ?_) AllReadyH.nil)
              have hK' := hid hK
              clear hK
              rw [if_pos (by kernel_rfl)]
              simp only [ly1, ly2, ly3]
              refine wp_run' (.slice (some ⟨W17.heap.size, 0, none⟩) 1 1) (W17.alloc (.cells #[.string z] 9)) (by kernel_rfl) ?_
              obtain ⟨gn8, hgn⟩ : ∃ g, W17.heap.size = g := ⟨_, rfl⟩
              generalize hW : World.alloc _ _ = W18
              obtain ⟨hN, hb⟩ := new_at7 hW
              rw [hgn] at hN ⊢
              clear hW hgn
              have hA18 := hid (hA17.out.on hb)
              have hB18 := hid (bup hb hB17.out)
              have hZ18 := hid (hZ17.out.below hb hZ17.out.lt)
              have hN18 := hid hN
              clear hb hA17 hB17 hZ17 hN
              refine hK'.out _ _ (by exact trivial) (fun hHeld => ?_)
              clear hK' K
              refine wpAnyH_ready (rs := [8]) (by kernel_rfl) (by simp) (AllReadyH.cons rfl (fun K hK => ?_) AllReadyH.nil)
              have hK' := hid hK
              clear hK
              rw [if_pos (by kernel_rfl)]
              simp only [ly1, ly2, ly3]
              refine wp_append_lies W18 (.tmp 36) (.tmp 39) 90 rfl (x + 1) 9 it (.string ⟨#[]⟩) 1 16 Tryz.underlying90 hit'.out hitz'.out hits'.out hitb'.out rfl (by decide) (.slice A2 i c2) i (strs (List.replicate i z)) rfl hA18.out.r2 ⟨gn8, 0, none⟩ 1 1 [.string z] rfl rfl (by intro j u hu; match j, hu with | 0, hu => (obtain rfl := Option.some.inj hu; exact hN18.out.cK 0 _ rfl)) (by intro u hu; rw [List.mem_singleton.1 hu]; rfl) (by decide) (by unfold maxLen; have := hi1.out; omega) (by have := hi1.out; omega) (by have := hA18.out.own.lt; omega) _ rfl ?_
              intro g8 cap8 W19 ho hg hl _
              have hp := hA18.out.push2 ho hg hl
              have hX19 := hid hp.1
              have hP19 := hid hp.2
              have hB19 := hid (hB18.out.grown hg hB18.out.size (fun k e => by have h1 := (hA18.out.r2.lt k e).1; have h2 := hx'.out; omega))
              clear hp ho hg hl hA18 hB18 hZ18 hN18
              refine hK'.out _ _ (by exact trivial) (fun hHeld => ?_)
              clear hK' K
              refine tkn 9 (.pointer (some ⟨x, 0, none⟩)) rfl (by kernel_rfl) (fun _ _ _ h => h) (.inl ⟨by kernel_rfl, fun w _ => by go_simp⟩) hHeld ?_
              simp only [ly, Act.put]
              refine tkn 10 (.pointer (some ⟨x, 1, none⟩)) rfl (by kernel_rfl) (fun _ _ _ h => h) (.inl ⟨by kernel_rfl, fun w _ => by go_simp⟩) hHeld ?_
              simp only [ly, Act.put]
              refine wpAnyH_ready (rs := [11]) (by kernel_rfl) (by simp) (AllReadyH.cons rfl (fun K hK => ?_) AllReadyH.nil)
              have hK' := hid hK
              clear hK
              rw [if_pos (by kernel_rfl)]
              simp only [ly1, ly2, ly3]
              have cx := hX19.out.cK 1 _ rfl
              have fx := hX19.out.frozen 1
              have hBx := hid (hB19.out.setCell (p := ⟨x, 1, none⟩) (by show w.heap.size ≤ x; have := hx'.out; omega) (.slice (some ⟨g8, 0, none⟩) (i + 1) cap8))
              go_simp
              obtain ⟨W20, hW⟩ : ∃ V, W19.setCell ⟨x, 1, none⟩ (.slice (some ⟨g8, 0, none⟩) (i + 1) cap8) = V := ⟨_, rfl⟩
              rw [hW] at hP19 hBx ⊢
              have hA20 := hid hP19.out
              have hB20 := hid hBx.out
              clear hW hX19 hP19 hBx hB19 cx fx
              refine hK'.out _ _ (by exact trivial) (fun hHeld => ?_)
              clear hK' K
              refine wpAnyH_done (by kernel_rfl) ?_ _
              go_wp2_with fail
              go_roundw
              case rel => exact ⟨i + 1, _, _, _, _, by have := hlt''.out; omega, by go_num, hA20.out, hB20.out⟩
              case measure => have := hlt''.out; simp [intOf]; omega
            · skip
              have hK' := hid hK
              clear hK
              rw [if_pos (by kernel_rfl)]
              simp only [ly1, ly2, ly3]
              refine wp_run' (.slice (some ⟨W17.heap.size, 0, none⟩) 1 1) (W17.alloc (.cells #[.string z] 9)) (by kernel_rfl) ?_
              obtain ⟨gn8, hgn⟩ : ∃ g, W17.heap.size = g := ⟨_, rfl⟩
              generalize hW : World.alloc _ _ = W18
              obtain ⟨hN, hb⟩ := new_at7 hW
              rw [hgn] at hN ⊢
              clear hW hgn
              have hA18 := hid (hA17.out.on hb)
              have hB18 := hid (bup hb hB17.out)
              have hZ18 := hid (hZ17.out.below hb hZ17.out.lt)
              have hN18 := hid hN
              clear hb hA17 hB17 hZ17 hN
              refine hK'.out _ _ (by exact trivial) (fun hHeld => ?_)
              clear hK' K
              refine wpAnyH_ready (rs := [4]) (by kernel_rfl) (by simp) (AllReadyH.cons rfl (fun K hK => ?_) AllReadyH.nil)
              have hK' := hid hK
              clear hK
              rw [if_pos (by kernel_rfl)]
              simp only [ly1, ly2, ly3]
              have cx := hA18.out.own.cK 1 _ rfl
              go_simp
              clear cx
              refine hK'.out _ _ (by exact trivial) (fun hHeld => ?_)
              clear hK' K
              refine wpAnyH_ready (rs := [8]) (by kernel_rfl) (by simp) (AllReadyH.cons rfl (fun K hK => ?_) AllReadyH.nil)
              have hK' := hid hK
              clear hK
              rw [if_pos (by kernel_rfl)]
              simp only [ly1, ly2, ly3]
              refine wp_append_lies W18 (.tmp 36) (.tmp 39) 90 rfl (x + 1) 9 it (.string ⟨#[]⟩) 1 16 Tryz.underlying90 hit'.out hitz'.out hits'.out hitb'.out rfl (by decide) (.slice A2 i c2) i (strs (List.replicate i z)) rfl hA18.out.r2 ⟨gn8, 0, none⟩ 1 1 [.string z] rfl rfl (by intro j u hu; match j, hu with | 0, hu => (obtain rfl := Option.some.inj hu; exact hN18.out.cK 0 _ rfl)) (by intro u hu; rw [List.mem_singleton.1 hu]; rfl) (by decide) (by unfold maxLen; have := hi1.out; omega) (by have := hi1.out; omega) (by have := hA18.out.own.lt; omega) _ rfl ?_
              intro g8 cap8 W19 ho hg hl _
              have hp := hA18.out.push2 ho hg hl
              have hX19 := hid hp.1
              have hP19 := hid hp.2
              have hB19 := hid (hB18.out.grown hg hB18.out.size (fun k e => by have h1 := (hA18.out.r2.lt k e).1; have h2 := hx'.out; omega))
              clear hp ho hg hl hA18 hB18 hZ18 hN18
              refine hK'.out _ _ (by exact trivial) (fun hHeld => ?_)
              clear hK' K
              refine tkn 9 (.pointer (some ⟨x, 0, none⟩)) rfl (by kernel_rfl) (fun _ _ _ h => h) (.inl ⟨by kernel_rfl, fun w _ => by go_simp⟩) hHeld ?_
              simp only [ly, Act.put]
              refine tkn 10 (.pointer (some ⟨x, 1, none⟩)) rfl (by kernel_rfl) (fun _ _ _ h => h) (.inl ⟨by kernel_rfl, fun w _ => by go_simp⟩) hHeld ?_
              simp only [ly, Act.put]
              refine wpAnyH_ready (rs := [11]) (by kernel_rfl) (by simp) (AllReadyH.cons rfl (fun K hK => ?_) AllReadyH.nil)
              have hK' := hid hK
              clear hK
              rw [if_pos (by kernel_rfl)]
              simp only [ly1, ly2, ly3]
              have cx := hX19.out.cK 1 _ rfl
              have fx := hX19.out.frozen 1
              have hBx := hid (hB19.out.setCell (p := ⟨x, 1, none⟩) (by show w.heap.size ≤ x; have := hx'.out; omega) (.slice (some ⟨g8, 0, none⟩) (i + 1) cap8))
              go_simp
              obtain ⟨W20, hW⟩ : ∃ V, W19.setCell ⟨x, 1, none⟩ (.slice (some ⟨g8, 0, none⟩) (i + 1) cap8) = V := ⟨_, rfl⟩
              rw [hW] at hP19 hBx ⊢
              have hA20 := hid hP19.out
              have hB20 := hid hBx.out
              clear hW hX19 hP19 hBx hB19 cx fx
              refine hK'.out _ _ (by exact trivial) (fun hHeld => ?_)
              clear hK' K
              refine wpAnyH_done (by kernel_rfl) ?_ _
              go_wp2_with fail
              go_roundw
              case rel => exact ⟨i + 1, _, _, _, _, by have := hlt''.out; omega, by go_num, hA20.out, hB20.out⟩
              case measure => have := hlt''.out; simp [intOf]; omega
      · skip
        have hK' := hid hK
        clear hK
        rw [if_pos (by kernel_rfl)]
        simp only [ly1, ly2, ly3]
        refine wp_run' (.slice (some ⟨W11.heap.size, 0, none⟩) 64 64) (W11.alloc (.cells zSc 5)) (by kernel_rfl) ?_
        obtain ⟨gz7, hgz⟩ : ∃ g, W11.heap.size = g := ⟨_, rfl⟩
        generalize hW : World.alloc _ _ = W12
        obtain ⟨hN, hb⟩ := new_at7 hW
        rw [hgz] at hN ⊢
        clear hW hgz
        have hA12 := hid (hA11.out.on hb)
        have hB12 := hid (bup hb hB11.out)
        have hZ12 := hid hN
        clear hb hA11 hB11 hN
        refine hK'.out _ _ (by exact trivial) (fun hHeld => ?_)
        clear hK' K
        refine wpAnyH_ready (rs := [4, 6]) (by kernel_rfl) (by simp) (AllReadyH.cons rfl (fun K hK => ?_) (AllReadyH.cons rfl (fun K hK => ?_) AllReadyH.nil))
        · skip
          have hK' := hid hK
          clear hK
          rw [if_pos (by kernel_rfl)]
          simp only [ly1, ly2, ly3]
          have cx := hA12.out.own.cK 0 _ rfl
          go_simp
          clear cx
          refine hK'.out _ _ (by exact trivial) (fun hHeld => ?_)
          clear hK' K
          refine wpAnyH_ready (rs := [6]) (by kernel_rfl) (by simp) (AllReadyH.cons rfl (fun K hK => ?_) AllReadyH.nil)
          have hK' := hid hK
          clear hK
          rw [if_pos (by kernel_rfl)]
          simp only [ly1, ly2, ly3]
          refine wp_conv 82 9 (.tmp 26) rfl (.slice (some ⟨gz7, 0, none⟩) 64 64) (.string z) _ rfl (by exact run_convert_block (P := Tryz.prog) (t := 5) (e := 5) 82 9 Tryz.underlying82 Tryz.underlying5 Tryz.underlying9 (g := gz7) (c := 64) (n := 64) (s := z) hz64.out.symm hZ12.out (by exact hzc.out)) ?_
          refine hK'.out _ _ (by exact trivial) (fun hHeld => ?_)
          clear hK' K
          refine wpAnyH_ready (rs := [7]) (by kernel_rfl) (by simp) (AllReadyH.cons rfl (fun K hK => ?_) AllReadyH.nil)
          have hK' := hid hK
          clear hK
          rw [if_pos (by kernel_rfl)]
          simp only [ly1, ly2, ly3]
          refine wp_run' (.slice (some ⟨W12.heap.size, 0, none⟩) 1 1) (W12.alloc (.cells #[.string z] 9)) (by kernel_rfl) ?_
          obtain ⟨gn7, hgn⟩ : ∃ g, W12.heap.size = g := ⟨_, rfl⟩
          generalize hW : World.alloc _ _ = W13
          obtain ⟨hN, hb⟩ := new_at7 hW
          rw [hgn] at hN ⊢
          clear hW hgn
          have hA13 := hid (hA12.out.on hb)
          have hB13 := hid (bup hb hB12.out)
          have hZ13 := hid (hZ12.out.below hb hZ12.out.lt)
          have hN13 := hid hN
          clear hb hA12 hB12 hZ12 hN
          refine hK'.out _ _ (by exact trivial) (fun hHeld => ?_)
          clear hK' K
          refine wpAnyH_ready (rs := [8]) (by kernel_rfl) (by simp) (AllReadyH.cons rfl (fun K hK => ?_) AllReadyH.nil)
          have hK' := hid hK
          clear hK
          rw [if_pos (by kernel_rfl)]
          simp only [ly1, ly2, ly3]
          refine wp_append_lies W13 (.tmp 25) (.tmp 28) 90 rfl (x + 1) 9 it (.string ⟨#[]⟩) 1 16 Tryz.underlying90 hit'.out hitz'.out hits'.out hitb'.out rfl (by decide) (.slice A1 i c1) i (strs (List.replicate i z)) rfl hA13.out.r1 ⟨gn7, 0, none⟩ 1 1 [.string z] rfl rfl (by intro j u hu; match j, hu with | 0, hu => (obtain rfl := Option.some.inj hu; exact hN13.out.cK 0 _ rfl)) (by intro u hu; rw [List.mem_singleton.1 hu]; rfl) (by decide) (by unfold maxLen; have := hi1.out; omega) (by have := hi1.out; omega) (by have := hA13.out.own.lt; omega) _ rfl ?_
          intro g7 cap7 W14 ho hg hl _
          have hp := hA13.out.push1 ho hg hl
          have hX14 := hid hp.1
          have hP14 := hid hp.2
          have hB14 := hid (hB13.out.grown hg hB13.out.size (fun k e => by have h1 := (hA13.out.r1.lt k e).1; have h2 := hx'.out; omega))
          clear hp ho hg hl hA13 hB13 hZ13 hN13
          refine hK'.out _ _ (by exact trivial) (fun hHeld => ?_)
          clear hK' K
          refine tkn 9 (.pointer (some ⟨x, 0, none⟩)) rfl (by kernel_rfl) (fun _ _ _ h => h) (.inl ⟨by kernel_rfl, fun w _ => by go_simp⟩) hHeld ?_
          simp only [ly, Act.put]
          refine tkn 10 (.pointer (some ⟨x, 0, none⟩)) rfl (by kernel_rfl) (fun _ _ _ h => h) (.inl ⟨by kernel_rfl, fun w _ => by go_simp⟩) hHeld ?_
          simp only [ly, Act.put]
          refine wpAnyH_ready (rs := [11]) (by kernel_rfl) (by simp) (AllReadyH.cons rfl (fun K hK => ?_) AllReadyH.nil)
          have hK' := hid hK
          clear hK
          rw [if_pos (by kernel_rfl)]
          simp only [ly1, ly2, ly3]
          have cx := hX14.out.cK 0 _ rfl
          have fx := hX14.out.frozen 0
          have hBx := hid (hB14.out.setCell (p := ⟨x, 0, none⟩) (by show w.heap.size ≤ x; have := hx'.out; omega) (.slice (some ⟨g7, 0, none⟩) (i + 1) cap7))
          go_simp
          obtain ⟨W15, hW⟩ : ∃ V, W14.setCell ⟨x, 0, none⟩ (.slice (some ⟨g7, 0, none⟩) (i + 1) cap7) = V := ⟨_, rfl⟩
          rw [hW] at hP14 hBx ⊢
          have hA15 := hid hP14.out
          have hB15 := hid hBx.out
          clear hW hX14 hP14 hBx hB14 cx fx
          refine hK'.out _ _ (by exact trivial) (fun hHeld => ?_)
          clear hK' K
          refine wpAnyH_done (by kernel_rfl) ?_ _
          go_wp2_with fail
          skip
          have hb : Below W15.heap.size W15 W15.drew := (Below.refl _ _).drew
          have hA16 := hid (hA15.out.on hb)
          have hB16 := hid (bup hb hB15.out)
          clear hb hA15 hB15
          refine wp_region_held_drew (S := fun _ => True) (by kernel_rfl) (by exact trivial) (fun hHeld => ?_)
          generalize W15.drew = W16 at *
          refine tkn 0 (.pointer (some ⟨x, 0, none⟩)) rfl (by kernel_rfl) (fun _ _ _ h => h) (yieldsIf_move _ rfl rfl rfl) hHeld ?_
          simp only [ly, Act.put]
          refine tkn 1 (.pointer (some ⟨x, 0, none⟩)) rfl (by kernel_rfl) (fun _ _ _ h => h) (yieldsIf_move _ rfl rfl rfl) hHeld ?_
          simp only [ly, Act.put]
          refine tkn 2 (.pointer (some ⟨x, 0, none⟩)) rfl (by kernel_rfl) (fun _ _ _ h => h) (.inl ⟨by kernel_rfl, fun w _ => by go_simp⟩) hHeld ?_
          simp only [ly, Act.put]
          refine tkn 3 (.pointer (some ⟨x, 1, none⟩)) rfl (by kernel_rfl) (fun _ _ _ h => h) (.inl ⟨by kernel_rfl, fun w _ => by go_simp⟩) hHeld ?_
          simp only [ly, Act.put]
          refine wpAnyH_ready (rs := [4, 5]) (by kernel_rfl) (by simp) (AllReadyH.cons rfl (fun K hK => ?_) (AllReadyH.cons rfl (fun K hK => ?_) AllReadyH.nil))
          · skip
            have hK' := hid hK
            clear hK
            rw [if_pos (by kernel_rfl)]
            simp only [ly1, ly2, ly3]
            have cx := hA16.out.own.cK 1 _ rfl
            go_simp
            clear cx
            refine hK'.out _ _ (by exact trivial) (fun hHeld => ?_)
            clear hK' K
            refine wpAnyH_ready (rs := [5]) (by kernel_rfl) (by simp) (AllReadyH.cons rfl (fun K hK => ?_) AllReadyH.nil)
            have hK' := hid hK
            clear hK
            rw [if_pos (by kernel_rfl)]
            simp only [ly1, ly2, ly3]
            refine wp_run' (.slice (some ⟨W16.heap.size, 0, none⟩) 64 64) (W16.alloc (.cells zSc 5)) (by kernel_rfl) ?_
            obtain ⟨gz8, hgz⟩ : ∃ g, W16.heap.size = g := ⟨_, rfl⟩
            generalize hW : World.alloc _ _ = W17
            obtain ⟨hN, hb⟩ := new_at7 hW
            rw [hgz] at hN ⊢
            clear hW hgz
            have hA17 := hid (hA16.out.on hb)
            have hB17 := hid (bup hb hB16.out)
            have hZ17 := hid hN
            clear hb hA16 hB16 hN
            refine hK'.out _ _ (by exact trivial) (fun hHeld => ?_)
            clear hK' K
            refine wpAnyH_ready (rs := [6]) (by kernel_rfl) (by simp) (AllReadyH.cons rfl (fun K hK => ?_) AllReadyH.nil)
            have hK' := hid hK
            clear hK
            rw [if_pos (by kernel_rfl)]
            simp only [ly1, ly2, ly3]
            refine wp_conv 82 9 (.tmp 37) rfl (.slice (some ⟨gz8, 0, none⟩) 64 64) (.string z) _ rfl (by exact run_convert_block (P := Tryz.prog) (t := 5) (e := 5) 82 9 Tryz.underlying82 Tryz.underlying5 Tryz.underlying9 (g := gz8) (c := 64) (n := 64) (s := z) hz64.out.symm hZ17.out (by exact hzc.out)) ?_
            refine hK'.out _ _ (by exact trivial) (fun hHeld => ?_)
            clear hK' K
            refine wpAnyH_ready (rs := [7]) (by kernel_rfl) (by simp) (AllReadyH.cons rfl (fun K hK => ?_) AllReadyH.nil)
            have hK' := hid hK
            clear hK
            rw [if_pos (by kernel_rfl)]
            simp only [ly1, ly2, ly3]
            refine wp_run' (.slice (some ⟨W17.heap.size, 0, none⟩) 1 1) (W17.alloc (.cells #[.string z] 9)) (by kernel_rfl) ?_
            obtain ⟨gn8, hgn⟩ : ∃ g, W17.heap.size = g := ⟨_, rfl⟩
            generalize hW : World.alloc _ _ = W18
            obtain ⟨hN, hb⟩ := new_at7 hW
            rw [hgn] at hN ⊢
            clear hW hgn
            have hA18 := hid (hA17.out.on hb)
            have hB18 := hid (bup hb hB17.out)
            have hZ18 := hid (hZ17.out.below hb hZ17.out.lt)
            have hN18 := hid hN
            clear hb hA17 hB17 hZ17 hN
            refine hK'.out _ _ (by exact trivial) (fun hHeld => ?_)
            clear hK' K
            refine wpAnyH_ready (rs := [8]) (by kernel_rfl) (by simp) (AllReadyH.cons rfl (fun K hK => ?_) AllReadyH.nil)
            have hK' := hid hK
            clear hK
            rw [if_pos (by kernel_rfl)]
            simp only [ly1, ly2, ly3]
            refine wp_append_lies W18 (.tmp 36) (.tmp 39) 90 rfl (x + 1) 9 it (.string ⟨#[]⟩) 1 16 Tryz.underlying90 hit'.out hitz'.out hits'.out hitb'.out rfl (by decide) (.slice A2 i c2) i (strs (List.replicate i z)) rfl hA18.out.r2 ⟨gn8, 0, none⟩ 1 1 [.string z] rfl rfl (by intro j u hu; match j, hu with | 0, hu => (obtain rfl := Option.some.inj hu; exact hN18.out.cK 0 _ rfl)) (by intro u hu; rw [List.mem_singleton.1 hu]; rfl) (by decide) (by unfold maxLen; have := hi1.out; omega) (by have := hi1.out; omega) (by have := hA18.out.own.lt; omega) _ rfl ?_
            intro g8 cap8 W19 ho hg hl _
            have hp := hA18.out.push2 ho hg hl
            have hX19 := hid hp.1
            have hP19 := hid hp.2
            have hB19 := hid (hB18.out.grown hg hB18.out.size (fun k e => by have h1 := (hA18.out.r2.lt k e).1; have h2 := hx'.out; omega))
            clear hp ho hg hl hA18 hB18 hZ18 hN18
            refine hK'.out _ _ (by exact trivial) (fun hHeld => ?_)
            clear hK' K
            refine tkn 9 (.pointer (some ⟨x, 0, none⟩)) rfl (by kernel_rfl) (fun _ _ _ h => h) (.inl ⟨by kernel_rfl, fun w _ => by go_simp⟩) hHeld ?_
            simp only [ly, Act.put]
            refine tkn 10 (.pointer (some ⟨x, 1, none⟩)) rfl (by kernel_rfl) (fun _ _ _ h => h) (.inl ⟨by kernel_rfl, fun w _ => by go_simp⟩) hHeld ?_
            simp only [ly, Act.put]
            refine wpAnyH_ready (rs := [11]) (by kernel_rfl) (by simp) (AllReadyH.cons rfl (fun K hK => ?_) AllReadyH.nil)
            have hK' := hid hK
            clear hK
            rw [if_pos (by kernel_rfl)]
            simp only [ly1, ly2, ly3]
            have cx := hX19.out.cK 1 _ rfl
            have fx := hX19.out.frozen 1
            have hBx := hid (hB19.out.setCell (p := ⟨x, 1, none⟩) (by show w.heap.size ≤ x; have := hx'.out; omega) (.slice (some ⟨g8, 0, none⟩) (i + 1) cap8))
            go_simp
            obtain ⟨W20, hW⟩ : ∃ V, W19.setCell ⟨x, 1, none⟩ (.slice (some ⟨g8, 0, none⟩) (i + 1) cap8) = V := ⟨_, rfl⟩
            rw [hW] at hP19 hBx ⊢
            have hA20 := hid hP19.out
            have hB20 := hid hBx.out
            clear hW hX19 hP19 hBx hB19 cx fx
            refine hK'.out _ _ (by exact trivial) (fun hHeld => ?_)
            clear hK' K
            refine wpAnyH_done (by kernel_rfl) ?_ _
            go_wp2_with fail
            go_roundw
            case rel => exact ⟨i + 1, _, _, _, _, by have := hlt''.out; omega, by go_num, hA20.out, hB20.out⟩
            case measure => have := hlt''.out; simp [intOf]; omega
          · skip
            have hK' := hid hK
            clear hK
            rw [if_pos (by kernel_rfl)]
            simp only [ly1, ly2, ly3]
            refine wp_run' (.slice (some ⟨W16.heap.size, 0, none⟩) 64 64) (W16.alloc (.cells zSc 5)) (by kernel_rfl) ?_
            obtain ⟨gz8, hgz⟩ : ∃ g, W16.heap.size = g := ⟨_, rfl⟩
            generalize hW : World.alloc _ _ = W17
            obtain ⟨hN, hb⟩ := new_at7 hW
            rw [hgz] at hN ⊢
            clear hW hgz
            have hA17 := hid (hA16.out.on hb)
            have hB17 := hid (bup hb hB16.out)
            have hZ17 := hid hN
            clear hb hA16 hB16 hN
            refine hK'.out _ _ (by exact trivial) (fun hHeld => ?_)
            clear hK' K
            refine wpAnyH_ready (rs := [4, 6]) (by kernel_rfl) (by simp) (AllReadyH.cons rfl (fun K hK => ?_) (AllReadyH.cons rfl (fun K hK => ?_) AllReadyH.nil))
            · skip
              have hK' := hid hK
              clear hK
              rw [if_pos (by kernel_rfl)]
              simp only [ly1, ly2, ly3]
              have cx := hA17.out.own.cK 1 _ rfl
              go_simp
              clear cx
              refine hK'.out _ _ (by exact trivial) (fun hHeld => ?_)
              clear hK' K
              refine wpAnyH_ready (rs := [6]) (by kernel_rfl) (by simp) (AllReadyH.cons rfl (fun K hK => ?_) AllReadyH.nil)
              have hK' := hid hK
              clear hK
              rw [if_pos (by kernel_rfl)]
              simp only [ly1, ly2, ly3]
              refine wp_conv 82 9 (.tmp 37) rfl (.slice (some ⟨gz8, 0, none⟩) 64 64) (.string z) _ rfl (by exact run_convert_block (P := Tryz.prog) (t := 5) (e := 5) 82 9 Tryz.underlying82 Tryz.underlying5 Tryz.underlying9 (g := gz8) (c := 64) (n := 64) (s := z) hz64.out.symm hZ17.out (by exact hzc.out)) ?_
              refine hK'.out _ _ (by exact trivial) (fun hHeld => ?_)
              clear hK' K
              refine wpAnyH_ready (rs := [7]) (by kernel_rfl) (by simp) (AllReadyH.cons rfl (fun K hK => ?_) AllReadyH.nil)
              have hK' := hid hK
              clear hK
              rw [if_pos (by kernel_rfl)]
              simp only [ly1, ly2, ly3]
              refine wp_run' (.slice (some ⟨W17.heap.size, 0, none⟩) 1 1) (W17.alloc (.cells #[.string z] 9)) (by kernel_rfl) ?_
              obtain ⟨gn8, hgn⟩ : ∃ g, W17.heap.size = g := ⟨_, rfl⟩
              generalize hW : World.alloc _ _ = W18
              obtain ⟨hN, hb⟩ := new_at7 hW
              rw [hgn] at hN ⊢
              clear hW hgn
              have hA18 := hid (hA17.out.on hb)
              have hB18 := hid (bup hb hB17.out)
              have hZ18 := hid (hZ17.out.below hb hZ17.out.lt)
              have hN18 := hid hN
              clear hb hA17 hB17 hZ17 hN
              refine hK'.out _ _ (by exact trivial) (fun hHeld => ?_)
              clear hK' K
              refine wpAnyH_ready (rs := [8]) (by kernel_rfl) (by simp) (AllReadyH.cons rfl (fun K hK => ?_) AllReadyH.nil)
              have hK' := hid hK
              clear hK
              rw [if_pos (by kernel_rfl)]
              simp only [ly1, ly2, ly3]
              refine wp_append_lies W18 (.tmp 36) (.tmp 39) 90 rfl (x + 1) 9 it (.string ⟨#[]⟩) 1 16 Tryz.underlying90 hit'.out hitz'.out hits'.out hitb'.out rfl (by decide) (.slice A2 i c2) i (strs (List.replicate i z)) rfl hA18.out.r2 ⟨gn8, 0, none⟩ 1 1 [.string z] rfl rfl (by intro j u hu; match j, hu with | 0, hu => (obtain rfl := Option.some.inj hu; exact hN18.out.cK 0 _ rfl)) (by intro u hu; rw [List.mem_singleton.1 hu]; rfl) (by decide) (by unfold maxLen; have := hi1.out; omega) (by have := hi1.out; omega) (by have := hA18.out.own.lt; omega) _ rfl ?_
              intro g8 cap8 W19 ho hg hl _
              have hp := hA18.out.push2 ho hg hl
              have hX19 := hid hp.1
              have hP19 := hid hp.2
              have hB19 := hid (hB18.out.grown hg hB18.out.size (fun k e => by have h1 := (hA18.out.r2.lt k e).1; have h2 := hx'.out; omega))
              clear hp ho hg hl hA18 hB18 hZ18 hN18
              refine hK'.out _ _ (by exact trivial) (fun hHeld => ?_)
              clear hK' K
              refine tkn 9 (.pointer (some ⟨x, 0, none⟩)) rfl (by kernel_rfl) (fun _ _ _ h => h) (.inl ⟨by kernel_rfl, fun w _ => by go_simp⟩) hHeld ?_
              simp only [ly, Act.put]
              refine tkn 10 (.pointer (some ⟨x, 1, none⟩)) rfl (by kernel_rfl) (fun _ _ _ h => h) (.inl ⟨by kernel_rfl, fun w _ => by go_simp⟩) hHeld ?_
              simp only [ly, Act.put]
              refine wpAnyH_ready (rs := [11]) (by kernel_rfl) (by simp) (AllReadyH.cons rfl (fun K hK => ?_) AllReadyH.nil)
              have hK' := hid hK
              clear hK
              rw [if_pos (by kernel_rfl)]
              simp only [ly1, ly2, ly3]
              have cx := hX19.out.cK 1 _ rfl
              have fx := hX19.out.frozen 1
              have hBx := hid (hB19.out.setCell (p := ⟨x, 1, none⟩) (by show w.heap.size ≤ x; have := hx'.out; omega) (.slice (some ⟨g8, 0, none⟩) (i + 1) cap8))
              go_simp
              obtain ⟨W20, hW⟩ : ∃ V, W19.setCell ⟨x, 1, none⟩ (.slice (some ⟨g8, 0, none⟩) (i + 1) cap8) = V := ⟨_, rfl⟩
              rw [hW] at hP19 hBx ⊢
              have hA20 := hid hP19.out
              have hB20 := hid hBx.out
              clear hW hX19 hP19 hBx hB19 cx fx
              refine hK'.out _ _ (by exact trivial) (fun hHeld => ?_)
              clear hK' K
              refine wpAnyH_done (by kernel_rfl) ?_ _
              go_wp2_with fail
              go_roundw
              case rel => exact ⟨i + 1, _, _, _, _, by have := hlt''.out; omega, by go_num, hA20.out, hB20.out⟩
              case measure => have := hlt''.out; simp [intOf]; omega
            · skip
              have hK' := hid hK
              clear hK
              rw [if_pos (by kernel_rfl)]
              simp only [ly1, ly2, ly3]
              refine wp_conv 82 9 (.tmp 37) rfl (.slice (some ⟨gz8, 0, none⟩) 64 64) (.string z) _ rfl (by exact run_convert_block (P := Tryz.prog) (t := 5) (e := 5) 82 9 Tryz.underlying82 Tryz.underlying5 Tryz.underlying9 (g := gz8) (c := 64) (n := 64) (s := z) hz64.out.symm hZ17.out (by exact hzc.out)) ?_
              refine hK'.out _ _ (by exact trivial) (fun hHeld => ?_)
              clear hK' K
              refine wpAnyH_ready (rs := [4, 7]) (by kernel_rfl) (by simp) (AllReadyH.cons rfl (fun K hK => ?_) (AllReadyH.cons rfl (fun K hK => ?_) AllReadyH.nil))
              · skip
                have hK' := hid hK
                clear hK
                rw [if_pos (by kernel_rfl)]
                simp only [ly1, ly2, ly3]
                have cx := hA17.out.own.cK 1 _ rfl
                go_simp
                clear cx
                refine hK'.out _ _ (by exact trivial) (fun hHeld => ?_)
                clear hK' K
                refine wpAnyH_ready (rs := [7]) (by kernel_rfl) (by simp) (AllReadyH.cons rfl (fun K hK => ?_) AllReadyH.nil)
                have hK' := hid hK
                clear hK
                rw [if_pos (by kernel_rfl)]
                simp only [ly1, ly2, ly3]
                refine wp_run' (.slice (some ⟨W17.heap.size, 0, none⟩) 1 1) (W17.alloc (.cells #[.string z] 9)) (by kernel_rfl) ?_
                obtain ⟨gn8, hgn⟩ : ∃ g, W17.heap.size = g := ⟨_, rfl⟩
                generalize hW : World.alloc _ _ = W18
                obtain ⟨hN, hb⟩ := new_at7 hW
                rw [hgn] at hN ⊢
                clear hW hgn
                have hA18 := hid (hA17.out.on hb)
                have hB18 := hid (bup hb hB17.out)
                have hZ18 := hid (hZ17.out.below hb hZ17.out.lt)
                have hN18 := hid hN
                clear hb hA17 hB17 hZ17 hN
                refine hK'.out _ _ (by exact trivial) (fun hHeld => ?_)
                clear hK' K
                refine wpAnyH_ready (rs := [8]) (by kernel_rfl) (by simp) (AllReadyH.cons rfl (fun K hK => ?_) AllReadyH.nil)
                have hK' := hid hK
                clear hK
                rw [if_pos (by kernel_rfl)]
                simp only [ly1, ly2, ly3]
                refine wp_append_lies W18 (.tmp 36) (.tmp 39) 90 rfl (x + 1) 9 it (.string ⟨#[]⟩) 1 16 Tryz.underlying90 hit'.out hitz'.out hits'.out hitb'.out rfl (by decide) (.slice A2 i c2) i (strs (List.replicate i z)) rfl hA18.out.r2 ⟨gn8, 0, none⟩ 1 1 [.string z] rfl rfl (by intro j u hu; match j, hu with | 0, hu => (obtain rfl := Option.some.inj hu; exact hN18.out.cK 0 _ rfl)) (by intro u hu; rw [List.mem_singleton.1 hu]; rfl) (by decide) (by unfold maxLen; have := hi1.out; omega) (by have := hi1.out; omega) (by have := hA18.out.own.lt; omega) _ rfl ?_
                intro g8 cap8 W19 ho hg hl _
                have hp := hA18.out.push2 ho hg hl
                have hX19 := hid hp.1
                have hP19 := hid hp.2
                have hB19 := hid (hB18.out.grown hg hB18.out.size (fun k e => by have h1 := (hA18.out.r2.lt k e).1; have h2 := hx'.out; omega))
                clear hp ho hg hl hA18 hB18 hZ18 hN18
                refine hK'.out _ _ (by exact trivial) (fun hHeld => ?_)
                clear hK' K
                refine tkn 9 (.pointer (some ⟨x, 0, none⟩)) rfl (by kernel_rfl) (fun _ _ _ h => h) (.inl ⟨by kernel_rfl, fun w _ => by go_simp⟩) hHeld ?_
                simp only [ly, Act.put]
                refine tkn 10 (.pointer (some ⟨x, 1, none⟩)) rfl (by kernel_rfl) (fun _ _ _ h => h) (.inl ⟨by kernel_rfl, fun w _ => by go_simp⟩) hHeld ?_
                simp only [ly, Act.put]
                refine wpAnyH_ready (rs := [11]) (by kernel_rfl) (by simp) (AllReadyH.cons rfl (fun K hK => ?_) AllReadyH.nil)
                have hK' := hid hK
                clear hK
                rw [if_pos (by kernel_rfl)]
                simp only [ly1, ly2, ly3]
                have cx := hX19.out.cK 1 _ rfl
                have fx := hX19.out.frozen 1
                have hBx := hid (hB19.out.setCell (p := ⟨x, 1, none⟩) (by show w.heap.size ≤ x; have := hx'.out; omega) (.slice (some ⟨g8, 0, none⟩) (i + 1) cap8))
                go_simp
                obtain ⟨W20, hW⟩ : ∃ V, W19.setCell ⟨x, 1, none⟩ (.slice (some ⟨g8, 0, none⟩) (i + 1) cap8) = V := ⟨_, rfl⟩
                rw [hW] at hP19 hBx ⊢
                have hA20 := hid hP19.out
                have hB20 := hid hBx.out
                clear hW hX19 hP19 hBx hB19 cx fx
                refine hK'.out _ _ (by exact trivial) (fun hHeld => ?_)
                clear hK' K
                refine wpAnyH_done (by kernel_rfl) ?_ _
                go_wp2_with fail
                go_roundw
                case rel => exact ⟨i + 1, _, _, _, _, by have := hlt''.out; omega, by go_num, hA20.out, hB20.out⟩
                case measure => have := hlt''.out; simp [intOf]; omega
              · skip
                have hK' := hid hK
                clear hK
                rw [if_pos (by kernel_rfl)]
                simp only [ly1, ly2, ly3]
                refine wp_run' (.slice (some ⟨W17.heap.size, 0, none⟩) 1 1) (W17.alloc (.cells #[.string z] 9)) (by kernel_rfl) ?_
                obtain ⟨gn8, hgn⟩ : ∃ g, W17.heap.size = g := ⟨_, rfl⟩
                generalize hW : World.alloc _ _ = W18
                obtain ⟨hN, hb⟩ := new_at7 hW
                rw [hgn] at hN ⊢
                clear hW hgn
                have hA18 := hid (hA17.out.on hb)
                have hB18 := hid (bup hb hB17.out)
                have hZ18 := hid (hZ17.out.below hb hZ17.out.lt)
                have hN18 := hid hN
                clear hb hA17 hB17 hZ17 hN
                refine hK'.out _ _ (by exact trivial) (fun hHeld => ?_)
                clear hK' K
                refine wpAnyH_ready (rs := [4]) (by kernel_rfl) (by simp) (AllReadyH.cons rfl (fun K hK => ?_) AllReadyH.nil)
                have hK' := hid hK
                clear hK
                rw [if_pos (by kernel_rfl)]
                simp only [ly1, ly2, ly3]
                have cx := hA18.out.own.cK 1 _ rfl
                go_simp
                clear cx
                refine hK'.out _ _ (by exact trivial) (fun hHeld => ?_)
                clear hK' K
                refine wpAnyH_ready (rs := [8]) (by kernel_rfl) (by simp) (AllReadyH.cons rfl (fun K hK => ?_) AllReadyH.nil)
                have hK' := hid hK
                clear hK
                rw [if_pos (by kernel_rfl)]
                simp only [ly1, ly2, ly3]
                refine wp_append_lies W18 (.tmp 36) (.tmp 39) 90 rfl (x + 1) 9 it (.string ⟨#[]⟩) 1 16 Tryz.underlying90 hit'.out hitz'.out hits'.out hitb'.out rfl (by decide) (.slice A2 i c2) i (strs (List.replicate i z)) rfl hA18.out.r2 ⟨gn8, 0, none⟩ 1 1 [.string z] rfl rfl (by intro j u hu; match j, hu with | 0, hu => (obtain rfl := Option.some.inj hu; exact hN18.out.cK 0 _ rfl)) (by intro u hu; rw [List.mem_singleton.1 hu]; rfl) (by decide) (by unfold maxLen; have := hi1.out; omega) (by have := hi1.out; omega) (by have := hA18.out.own.lt; omega) _ rfl ?_
                intro g8 cap8 W19 ho hg hl _
                have hp := hA18.out.push2 ho hg hl
                have hX19 := hid hp.1
                have hP19 := hid hp.2
                have hB19 := hid (hB18.out.grown hg hB18.out.size (fun k e => by have h1 := (hA18.out.r2.lt k e).1; have h2 := hx'.out; omega))
                clear hp ho hg hl hA18 hB18 hZ18 hN18
                refine hK'.out _ _ (by exact trivial) (fun hHeld => ?_)
                clear hK' K
                refine tkn 9 (.pointer (some ⟨x, 0, none⟩)) rfl (by kernel_rfl) (fun _ _ _ h => h) (.inl ⟨by kernel_rfl, fun w _ => by go_simp⟩) hHeld ?_
                simp only [ly, Act.put]
                refine tkn 10 (.pointer (some ⟨x, 1, none⟩)) rfl (by kernel_rfl) (fun _ _ _ h => h) (.inl ⟨by kernel_rfl, fun w _ => by go_simp⟩) hHeld ?_
                simp only [ly, Act.put]
                refine wpAnyH_ready (rs := [11]) (by kernel_rfl) (by simp) (AllReadyH.cons rfl (fun K hK => ?_) AllReadyH.nil)
                have hK' := hid hK
                clear hK
                rw [if_pos (by kernel_rfl)]
                simp only [ly1, ly2, ly3]
                have cx := hX19.out.cK 1 _ rfl
                have fx := hX19.out.frozen 1
                have hBx := hid (hB19.out.setCell (p := ⟨x, 1, none⟩) (by show w.heap.size ≤ x; have := hx'.out; omega) (.slice (some ⟨g8, 0, none⟩) (i + 1) cap8))
                go_simp
                obtain ⟨W20, hW⟩ : ∃ V, W19.setCell ⟨x, 1, none⟩ (.slice (some ⟨g8, 0, none⟩) (i + 1) cap8) = V := ⟨_, rfl⟩
                rw [hW] at hP19 hBx ⊢
                have hA20 := hid hP19.out
                have hB20 := hid hBx.out
                clear hW hX19 hP19 hBx hB19 cx fx
                refine hK'.out _ _ (by exact trivial) (fun hHeld => ?_)
                clear hK' K
                refine wpAnyH_done (by kernel_rfl) ?_ _
                go_wp2_with fail
                go_roundw
                case rel => exact ⟨i + 1, _, _, _, _, by have := hlt''.out; omega, by go_num, hA20.out, hB20.out⟩
                case measure => have := hlt''.out; simp [intOf]; omega
        · skip
          have hK' := hid hK
          clear hK
          rw [if_pos (by kernel_rfl)]
          simp only [ly1, ly2, ly3]
          refine wp_conv 82 9 (.tmp 26) rfl (.slice (some ⟨gz7, 0, none⟩) 64 64) (.string z) _ rfl (by exact run_convert_block (P := Tryz.prog) (t := 5) (e := 5) 82 9 Tryz.underlying82 Tryz.underlying5 Tryz.underlying9 (g := gz7) (c := 64) (n := 64) (s := z) hz64.out.symm hZ12.out (by exact hzc.out)) ?_
          refine hK'.out _ _ (by exact trivial) (fun hHeld => ?_)
          clear hK' K
          refine wpAnyH_ready (rs := [4, 7]) (by kernel_rfl) (by simp) (AllReadyH.cons rfl (fun K hK => ?_) (AllReadyH.cons rfl (fun K hK => ?_) AllReadyH.nil))
          · skip
            have hK' := hid hK
            clear hK
            rw [if_pos (by kernel_rfl)]
            simp only [ly1, ly2, ly3]
            have cx := hA12.out.own.cK 0 _ rfl
            go_simp
            clear cx
            refine hK'.out _ _ (by exact trivial) (fun hHeld => ?_)
            clear hK' K
            refine wpAnyH_ready (rs := [7]) (by kernel_rfl) (by simp) (AllReadyH.cons rfl (fun K hK => ?_) AllReadyH.nil)
            have hK' := hid hK
            clear hK
            rw [if_pos (by kernel_rfl)]
            simp only [ly1, ly2, ly3]
            refine wp_run' (.slice (some ⟨W12.heap.size, 0, none⟩) 1 1) (W12.alloc (.cells #[.string z] 9)) (by kernel_rfl) ?_
            obtain ⟨gn7, hgn⟩ : ∃ g, W12.heap.size = g := ⟨_, rfl⟩
            generalize hW : World.alloc _ _ = W13
            obtain ⟨hN, hb⟩ := new_at7 hW
            rw [hgn] at hN ⊢
            clear hW hgn
            have hA13 := hid (hA12.out.on hb)
            have hB13 := hid (bup hb hB12.out)
            have hZ13 := hid (hZ12.out.below hb hZ12.out.lt)
            have hN13 := hid hN
            clear hb hA12 hB12 hZ12 hN
            refine hK'.out _ _ (by exact trivial) (fun hHeld => ?_)
            clear hK' K
            refine wpAnyH_ready (rs := [8]) (by kernel_rfl) (by simp) (AllReadyH.cons rfl (fun K hK => ?_) AllReadyH.nil)
            have hK' := hid hK
            clear hK
            rw [if_pos (by kernel_rfl)]
            simp only [ly1, ly2, ly3]
            refine wp_append_lies W13 (.tmp 25) (.tmp 28) 90 rfl (x + 1) 9 it (.string ⟨#[]⟩) 1 16 Tryz.underlying90 hit'.out hitz'.out hits'.out hitb'.out rfl (by decide) (.slice A1 i c1) i (strs (List.replicate i z)) rfl hA13.out.r1 ⟨gn7, 0, none⟩ 1 1 [.string z] rfl rfl (by intro j u hu; match j, hu with | 0, hu => (obtain rfl := Option.some.inj hu; exact hN13.out.cK 0 _ rfl)) (by intro u hu; rw [List.mem_singleton.1 hu]; rfl) (by decide) (by unfold maxLen; have := hi1.out; omega) (by have := hi1.out; omega) (by have := hA13.out.own.lt; omega) _ rfl ?_
            intro g7 cap7 W14 ho hg hl _
            have hp := hA13.out.push1 ho hg hl
            have hX14 := hid hp.1
            have hP14 := hid hp.2
            have hB14 := hid (hB13.out.grown hg hB13.out.size (fun k e => by have h1 := (hA13.out.r1.lt k e).1; have h2 := hx'.out; omega))
            clear hp ho hg hl hA13 hB13 hZ13 hN13
            refine hK'.out _ _ (by exact trivial) (fun hHeld => ?_)
            clear hK' K
            refine tkn 9 (.pointer (some ⟨x, 0, none⟩)) rfl (by kernel_rfl) (fun _ _ _ h => h) (.inl ⟨by kernel_rfl, fun w _ => by go_simp⟩) hHeld ?_
            simp only [ly, Act.put]
            refine tkn 10 (.pointer (some ⟨x, 0, none⟩)) rfl (by kernel_rfl) (fun _ _ _ h => h) (.inl ⟨by kernel_rfl, fun w _ => by go_simp⟩) hHeld ?_
            simp only [ly, Act.put]
            refine wpAnyH_ready (rs := [11]) (by kernel_rfl) (by simp) (AllReadyH.cons rfl (fun K hK => ?_) AllReadyH.nil)
            have hK' := hid hK
            clear hK
            rw [if_pos (by kernel_rfl)]
            simp only [ly1, ly2, ly3]
            have cx := hX14.out.cK 0 _ rfl
            have fx := hX14.out.frozen 0
            have hBx := hid (hB14.out.setCell (p := ⟨x, 0, none⟩) (by show w.heap.size ≤ x; have := hx'.out; omega) (.slice (some ⟨g7, 0, none⟩) (i + 1) cap7))
            go_simp
            obtain ⟨W15, hW⟩ : ∃ V, W14.setCell ⟨x, 0, none⟩ (.slice (some ⟨g7, 0, none⟩) (i + 1) cap7) = V := ⟨_, rfl⟩
            rw [hW] at hP14 hBx ⊢
            have hA15 := hid hP14.out
            have hB15 := hid hBx.out
            clear hW hX14 hP14 hBx hB14 cx fx
            refine hK'.out _ _ (by exact trivial) (fun hHeld => ?_)
            clear hK' K
            refine wpAnyH_done (by kernel_rfl) ?_ _
            go_wp2_with fail
            skip
            have hb : Below W15.heap.size W15 W15.drew := (Below.refl _ _).drew
            have hA16 := hid (hA15.out.on hb)
            have hB16 := hid (bup hb hB15.out)
            clear hb hA15 hB15
            refine wp_region_held_drew (S := fun _ => True) (by kernel_rfl) (by exact trivial) (fun hHeld => ?_)
            generalize W15.drew = W16 at *
            refine tkn 0 (.pointer (some ⟨x, 0, none⟩)) rfl (by kernel_rfl) (fun _ _ _ h => h) (yieldsIf_move _ rfl rfl rfl) hHeld ?_
            simp only [ly, Act.put]
            refine tkn 1 (.pointer (some ⟨x, 0, none⟩)) rfl (by kernel_rfl) (fun _ _ _ h => h) (yieldsIf_move _ rfl rfl rfl) hHeld ?_
            simp only [ly, Act.put]
            refine tkn 2 (.pointer (some ⟨x, 0, none⟩)) rfl (by kernel_rfl) (fun _ _ _ h => h) (.inl ⟨by kernel_rfl, fun w _ => by go_simp⟩) hHeld ?_
            simp only [ly, Act.put]
            refine tkn 3 (.pointer (some ⟨x, 1, none⟩)) rfl (by kernel_rfl) (fun _ _ _ h => h) (.inl ⟨by kernel_rfl, fun w _ => by go_simp⟩) hHeld ?_
            simp only [ly, Act.put]
            refine wpAnyH_ready (rs := [4, 5]) (by kernel_rfl) (by simp) (AllReadyH.cons rfl (fun K hK => ?_) (AllReadyH.cons rfl (fun K hK => ?_) AllReadyH.nil))
            · skip
              have hK' := hid hK
              clear hK
              rw [if_pos (by kernel_rfl)]
              simp only [ly1, ly2, ly3]
              have cx := hA16.out.own.cK 1 _ rfl
              go_simp
              clear cx
              refine hK'.out _ _ (by exact trivial) (fun hHeld => ?_)
              clear hK' K
              refine wpAnyH_ready (rs := [5]) (by kernel_rfl) (by simp) (AllReadyH.cons rfl (fun K hK => ?_) AllReadyH.nil)
              have hK' := hid hK
              clear hK
              rw [if_pos (by kernel_rfl)]
              simp only [ly1, ly2, ly3]
              refine wp_run' (.slice (some ⟨W16.heap.size, 0, none⟩) 64 64) (W16.alloc (.cells zSc 5)) (by kernel_rfl) ?_
              obtain ⟨gz8, hgz⟩ : ∃ g, W16.heap.size = g := ⟨_, rfl⟩
              generalize hW : World.alloc _ _ = W17
              obtain ⟨hN, hb⟩ := new_at7 hW
              rw [hgz] at hN ⊢
              clear hW hgz
              have hA17 := hid (hA16.out.on hb)
              have hB17 := hid (bup hb hB16.out)
              have hZ17 := hid hN
              clear hb hA16 hB16 hN
              refine hK'.out _ _ (by exact trivial) (fun hHeld => ?_)
              clear hK' K
              refine wpAnyH_ready (rs := [6]) (by kernel_rfl) (by simp) (AllReadyH.cons rfl (fun K hK => ?_) AllReadyH.nil)
              have hK' := hid hK
              clear hK
              rw [if_pos (by kernel_rfl)]
              simp only [ly1, ly2, ly3]
              refine wp_conv 82 9 (.tmp 37) rfl (.slice (some ⟨gz8, 0, none⟩) 64 64) (.string z) _ rfl (by exact run_convert_block (P := Tryz.prog) (t := 5) (e := 5) 82 9 Tryz.underlying82 Tryz.underlying5 Tryz.underlying9 (g := gz8) (c := 64) (n := 64) (s := z) hz64.out.symm hZ17.out (by exact hzc.out)) ?_
              refine hK'.out _ _ (by exact trivial) (fun hHeld => ?_)
              clear hK' K
              refine wpAnyH_ready (rs := [7]) (by kernel_rfl) (by simp) (AllReadyH.cons rfl (fun K hK => ?_) AllReadyH.nil)
              have hK' := hid hK
              clear hK
              rw [if_pos (by kernel_rfl)]
              simp only [ly1, ly2, ly3]
              refine wp_run' (.slice (some ⟨W17.heap.size, 0, none⟩) 1 1) (W17.alloc (.cells #[.string z] 9)) (by kernel_rfl) ?_
              obtain ⟨gn8, hgn⟩ : ∃ g, W17.heap.size = g := ⟨_, rfl⟩
              generalize hW : World.alloc _ _ = W18
              obtain ⟨hN, hb⟩ := new_at7 hW
              rw [hgn] at hN ⊢
              clear hW hgn
              have hA18 := hid (hA17.out.on hb)
              have hB18 := hid (bup hb hB17.out)
              have hZ18 := hid (hZ17.out.below hb hZ17.out.lt)
              have hN18 := hid hN
              clear hb hA17 hB17 hZ17 hN
              refine hK'.out _ _ (by exact trivial) (fun hHeld => ?_)
              clear hK' K
              refine wpAnyH_ready (rs := [8]) (by kernel_rfl) (by simp) (AllReadyH.cons rfl (fun K hK => ?_) AllReadyH.nil)
              have hK' := hid hK
              clear hK
              rw [if_pos (by kernel_rfl)]
              simp only [ly1, ly2, ly3]
              refine wp_append_lies W18 (.tmp 36) (.tmp 39) 90 rfl (x + 1) 9 it (.string ⟨#[]⟩) 1 16 Tryz.underlying90 hit'.out hitz'.out hits'.out hitb'.out rfl (by decide) (.slice A2 i c2) i (strs (List.replicate i z)) rfl hA18.out.r2 ⟨gn8, 0, none⟩ 1 1 [.string z] rfl rfl (by intro j u hu; match j, hu with | 0, hu => (obtain rfl := Option.some.inj hu; exact hN18.out.cK 0 _ rfl)) (by intro u hu; rw [List.mem_singleton.1 hu]; rfl) (by decide) (by unfold maxLen; have := hi1.out; omega) (by have := hi1.out; omega) (by have := hA18.out.own.lt; omega) _ rfl ?_
              intro g8 cap8 W19 ho hg hl _
              have hp := hA18.out.push2 ho hg hl
              have hX19 := hid hp.1
              have hP19 := hid hp.2
              have hB19 := hid (hB18.out.grown hg hB18.out.size (fun k e => by have h1 := (hA18.out.r2.lt k e).1; have h2 := hx'.out; omega))
              clear hp ho hg hl hA18 hB18 hZ18 hN18
              refine hK'.out _ _ (by exact trivial) (fun hHeld => ?_)
              clear hK' K
              refine tkn 9 (.pointer (some ⟨x, 0, none⟩)) rfl (by kernel_rfl) (fun _ _ _ h => h) (.inl ⟨by kernel_rfl, fun w _ => by go_simp⟩) hHeld ?_
              simp only [ly, Act.put]
              refine tkn 10 (.pointer (some ⟨x, 1, none⟩)) rfl (by kernel_rfl) (fun _ _ _ h => h) (.inl ⟨by kernel_rfl, fun w _ => by go_simp⟩) hHeld ?_
              simp only [ly, Act.put]
              refine wpAnyH_ready (rs := [11]) (by kernel_rfl) (by simp) (AllReadyH.cons rfl (fun K hK => ?_) AllReadyH.nil)
              have hK' := hid hK
              clear hK
              rw [if_pos (by kernel_rfl)]
              simp only [ly1, ly2, ly3]
              have cx := hX19.out.cK 1 _ rfl
              have fx := hX19.out.frozen 1
              have hBx := hid (hB19.out.setCell (p := ⟨x, 1, none⟩) (by show w.heap.size ≤ x; have := hx'.out; omega) (.slice (some ⟨g8, 0, none⟩) (i + 1) cap8))
              go_simp
              obtain ⟨W20, hW⟩ : ∃ V, W19.setCell ⟨x, 1, none⟩ (.slice (some ⟨g8, 0, none⟩) (i + 1) cap8) = V := ⟨_, rfl⟩
              rw [hW] at hP19 hBx ⊢
              have hA20 := hid hP19.out
              have hB20 := hid hBx.out
              clear hW hX19 hP19 hBx hB19 cx fx
              refine hK'.out _ _ (by exact trivial) (fun hHeld => ?_)
              clear hK' K
              refine wpAnyH_done (by kernel_rfl) ?_ _
              go_wp2_with fail
              go_roundw
              case rel => exact ⟨i + 1, _, _, _, _, by have := hlt''.out; omega, by go_num, hA20.out, hB20.out⟩
              case measure => have := hlt''.out; simp [intOf]; omega
            · skip
              have hK' := hid hK
              clear hK
              rw [if_pos (by kernel_rfl)]
              simp only [ly1, ly2, ly3]
              refine wp_run' (.slice (some ⟨W16.heap.size, 0, none⟩) 64 64) (W16.alloc (.cells zSc 5)) (by kernel_rfl) ?_
              obtain ⟨gz8, hgz⟩ : ∃ g, W16.heap.size = g := ⟨_, rfl⟩
              generalize hW : World.alloc _ _ = W17
              obtain ⟨hN, hb⟩ := new_at7 hW
              rw [hgz] at hN ⊢
              clear hW hgz
              have hA17 := hid (hA16.out.on hb)
              have hB17 := hid (bup hb hB16.out)
              have hZ17 := hid hN
              clear hb hA16 hB16 hN
              refine hK'.out _ _ (by exact trivial) (fun hHeld => ?_)
              clear hK' K
              refine wpAnyH_ready (rs := [4, 6]) (by kernel_rfl) (by simp) (AllReadyH.cons rfl (fun K hK => ?_) (AllReadyH.cons rfl (fun K hK => ?_) AllReadyH.nil))
              · skip
                have hK' := hid hK
                clear hK
                rw [if_pos (by kernel_rfl)]
                simp only [ly1, ly2, ly3]
                have cx := hA17.out.own.cK 1 _ rfl
                go_simp
                clear cx
                refine hK'.out _ _ (by exact trivial) (fun hHeld => ?_)
                clear hK' K
                refine wpAnyH_ready (rs := [6]) (by kernel_rfl) (by simp) (AllReadyH.cons rfl (fun K hK => ?_) AllReadyH.nil)
                have hK' := hid hK
                clear hK
                rw [if_pos (by kernel_rfl)]
                simp only [ly1, ly2, ly3]
                refine wp_conv 82 9 (.tmp 37) rfl (.slice (some ⟨gz8, 0, none⟩) 64 64) (.string z) _ rfl (by exact run_convert_block (P := Tryz.prog) (t := 5) (e := 5) 82 9 Tryz.underlying82 Tryz.underlying5 Tryz.underlying9 (g := gz8) (c := 64) (n := 64) (s := z) hz64.out.symm hZ17.out (by exact hzc.out)) ?_
                refine hK'.out _ _ (by exact trivial) (fun hHeld => ?_)
                clear hK' K
                refine wpAnyH_ready (rs := [7]) (by kernel_rfl) (by simp) (AllReadyH.cons rfl (fun K hK => ?_) AllReadyH.nil)
                have hK' := hid hK
                clear hK
                rw [if_pos (by kernel_rfl)]
                simp only [ly1, ly2, ly3]
                refine wp_run' (.slice (some ⟨W17.heap.size, 0, none⟩) 1 1) (W17.alloc (.cells #[.string z] 9)) (by kernel_rfl) ?_
                obtain ⟨gn8, hgn⟩ : ∃ g, W17.heap.size = g := ⟨_, rfl⟩
                generalize hW : World.alloc _ _ = W18
                obtain ⟨hN, hb⟩ := new_at7 hW
                rw [hgn] at hN ⊢
                clear hW hgn
                have hA18 := hid (hA17.out.on hb)
                have hB18 := hid (bup hb hB17.out)
                have hZ18 := hid (hZ17.out.below hb hZ17.out.lt)
                have hN18 := hid hN
                clear hb hA17 hB17 hZ17 hN
                refine hK'.out _ _ (by exact trivial) (fun hHeld => ?_)
                clear hK' K
                refine wpAnyH_ready (rs := [8]) (by kernel_rfl) (by simp) (AllReadyH.cons rfl (fun K hK => ?_) AllReadyH.nil)
                have hK' := hid hK
                clear hK
                rw [if_pos (by kernel_rfl)]
                simp only [ly1, ly2, ly3]
                refine wp_append_lies W18 (.tmp 36) (.tmp 39) 90 rfl (x + 1) 9 it (.string ⟨#[]⟩) 1 16 Tryz.underlying90 hit'.out hitz'.out hits'.out hitb'.out rfl (by decide) (.slice A2 i c2) i (strs (List.replicate i z)) rfl hA18.out.r2 ⟨gn8, 0, none⟩ 1 1 [.string z] rfl rfl (by intro j u hu; match j, hu with | 0, hu => (obtain rfl := Option.some.inj hu; exact hN18.out.cK 0 _ rfl)) (by intro u hu; rw [List.mem_singleton.1 hu]; rfl) (by decide) (by unfold maxLen; have := hi1.out; omega) (by have := hi1.out; omega) (by have := hA18.out.own.lt; omega) _ rfl ?_
                intro g8 cap8 W19 ho hg hl _
                have hp := hA18.out.push2 ho hg hl
                have hX19 := hid hp.1
                have hP19 := hid hp.2
                have hB19 := hid (hB18.out.grown hg hB18.out.size (fun k e => by have h1 := (hA18.out.r2.lt k e).1; have h2 := hx'.out; omega))
                clear hp ho hg hl hA18 hB18 hZ18 hN18
                refine hK'.out _ _ (by exact trivial) (fun hHeld => ?_)
                clear hK' K
                refine tkn 9 (.pointer (some ⟨x, 0, none⟩)) rfl (by kernel_rfl) (fun _ _ _ h => h) (.inl ⟨by kernel_rfl, fun w _ => by go_simp⟩) hHeld ?_
                simp only [ly, Act.put]
                refine tkn 10 (.pointer (some ⟨x, 1, none⟩)) rfl (by kernel_rfl) (fun _ _ _ h => h) (.inl ⟨by kernel_rfl, fun w _ => by go_simp⟩) hHeld ?_
                simp only [ly, Act.put]
                refine wpAnyH_ready (rs := [11]) (by kernel_rfl) (by simp) (AllReadyH.cons rfl (fun K hK => ?_) AllReadyH.nil)
                have hK' := hid hK
                clear hK
                rw [if_pos (by kernel_rfl)]
                simp only [ly1, ly2, ly3]
                have cx := hX19.out.cK 1 _ rfl
                have fx := hX19.out.frozen 1
                have hBx := hid (hB19.out.setCell (p := ⟨x, 1, none⟩) (by show w.heap.size ≤ x; have := hx'.out; omega) (.slice (some ⟨g8, 0, none⟩) (i + 1) cap8))
                go_simp
                obtain ⟨W20, hW⟩ : ∃ V, W19.setCell ⟨x, 1, none⟩ (.slice (some ⟨g8, 0, none⟩) (i + 1) cap8) = V := ⟨_, rfl⟩
                rw [hW] at hP19 hBx ⊢
                have hA20 := hid hP19.out
                have hB20 := hid hBx.out
                clear hW hX19 hP19 hBx hB19 cx fx
                refine hK'.out _ _ (by exact trivial) (fun hHeld => ?_)
                clear hK' K
                refine wpAnyH_done (by kernel_rfl) ?_ _
                go_wp2_with fail
                go_roundw
                case rel => exact ⟨i + 1, _, _, _, _, by have := hlt''.out; omega, by go_num, hA20.out, hB20.out⟩
                case measure => have := hlt''.out; simp [intOf]; omega
              · skip
                have hK' := hid hK
                clear hK
                rw [if_pos (by kernel_rfl)]
                simp only [ly1, ly2, ly3]
                refine wp_conv 82 9 (.tmp 37) rfl (.slice (some ⟨gz8, 0, none⟩) 64 64) (.string z) _ rfl (by exact run_convert_block (P := Tryz.prog) (t := 5) (e := 5) 82 9 Tryz.underlying82 Tryz.underlying5 Tryz.underlying9 (g := gz8) (c := 64) (n := 64) (s := z) hz64.out.symm hZ17.out (by exact hzc.out)) ?_
                refine hK'.out _ _ (by exact trivial) (fun hHeld => ?_)
                clear hK' K
                refine wpAnyH_ready (rs := [4, 7]) (by kernel_rfl) (by simp) (AllReadyH.cons rfl (fun K hK => ?_) (AllReadyH.cons rfl (fun K hK => ?_) AllReadyH.nil))
                · skip
                  have hK' := hid hK
                  clear hK
                  rw [if_pos (by kernel_rfl)]
                  simp only [ly1, ly2, ly3]
                  have cx := hA17.out.own.cK 1 _ rfl
                  go_simp
                  clear cx
                  refine hK'.out _ _ (by exact trivial) (fun hHeld => ?_)
                  clear hK' K
                  refine wpAnyH_ready (rs := [7]) (by kernel_rfl) (by simp) (AllReadyH.cons rfl (fun K hK => ?_) AllReadyH.nil)
                  have hK' := hid hK
                  clear hK
                  rw [if_pos (by kernel_rfl)]
                  simp only [ly1, ly2, ly3]
                  refine wp_run' (.slice (some ⟨W17.heap.size, 0, none⟩) 1 1) (W17.alloc (.cells #[.string z] 9)) (by kernel_rfl) ?_
                  obtain ⟨gn8, hgn⟩ : ∃ g, W17.heap.size = g := ⟨_, rfl⟩
                  generalize hW : World.alloc _ _ = W18
                  obtain ⟨hN, hb⟩ := new_at7 hW
                  rw [hgn] at hN ⊢
                  clear hW hgn
                  have hA18 := hid (hA17.out.on hb)
                  have hB18 := hid (bup hb hB17.out)
                  have hZ18 := hid (hZ17.out.below hb hZ17.out.lt)
                  have hN18 := hid hN
                  clear hb hA17 hB17 hZ17 hN
                  refine hK'.out _ _ (by exact trivial) (fun hHeld => ?_)
                  clear hK' K
                  refine wpAnyH_ready (rs := [8]) (by kernel_rfl) (by simp) (AllReadyH.cons rfl (fun K hK => ?_) AllReadyH.nil)
                  have hK' := hid hK
                  clear hK
                  rw [if_pos (by kernel_rfl)]
                  simp only [ly1, ly2, ly3]
                  refine wp_append_lies W18 (.tmp 36) (.tmp 39) 90 rfl (x + 1) 9 it (.string ⟨#[]⟩) 1 16 Tryz.underlying90 hit'.out hitz'.out hits'.out hitb'.out rfl (by decide) (.slice A2 i c2) i (strs (List.replicate i z)) rfl hA18.out.r2 ⟨gn8, 0, none⟩ 1 1 [.string z] rfl rfl (by intro j u hu; match j, hu with | 0, hu => (obtain rfl := Option.some.inj hu; exact hN18.out.cK 0 _ rfl)) (by intro u hu; rw [List.mem_singleton.1 hu]; rfl) (by decide) (by unfold maxLen; have := hi1.out; omega) (by have := hi1.out; omega) (by have := hA18.out.own.lt; omega) _ rfl ?_
                  intro g8 cap8 W19 ho hg hl _
                  have hp := hA18.out.push2 ho hg hl
                  have hX19 := hid hp.1
                  have hP19 := hid hp.2
                  have hB19 := hid (hB18.out.grown hg hB18.out.size (fun k e => by have h1 := (hA18.out.r2.lt k e).1; have h2 := hx'.out; omega))
                  clear hp ho hg hl hA18 hB18 hZ18 hN18
                  refine hK'.out _ _ (by exact trivial) (fun hHeld => ?_)
                  clear hK' K
                  refine tkn 9 (.pointer (some ⟨x, 0, none⟩)) rfl (by kernel_rfl) (fun _ _ _ h => h) (.inl ⟨by kernel_rfl, fun w _ => by go_simp⟩) hHeld ?_
                  simp only [ly, Act.put]
                  refine tkn 10 (.pointer (some ⟨x, 1, none⟩)) rfl (by kernel_rfl) (fun _ _ _ h => h) (.inl ⟨by kernel_rfl, fun w _ => by go_simp⟩) hHeld ?_
                  simp only [ly, Act.put]
                  refine wpAnyH_ready (rs := [11]) (by kernel_rfl) (by simp) (AllReadyH.cons rfl (fun K hK => ?_) AllReadyH.nil)
                  have hK' := hid hK
                  clear hK
                  rw [if_pos (by kernel_rfl)]
                  simp only [ly1, ly2, ly3]
                  have cx := hX19.out.cK 1 _ rfl
                  have fx := hX19.out.frozen 1
                  have hBx := hid (hB19.out.setCell (p := ⟨x, 1, none⟩) (by show w.heap.size ≤ x; have := hx'.out; omega) (.slice (some ⟨g8, 0, none⟩) (i + 1) cap8))
                  go_simp
                  obtain ⟨W20, hW⟩ : ∃ V, W19.setCell ⟨x, 1, none⟩ (.slice (some ⟨g8, 0, none⟩) (i + 1) cap8) = V := ⟨_, rfl⟩
                  rw [hW] at hP19 hBx ⊢
                  have hA20 := hid hP19.out
                  have hB20 := hid hBx.out
                  clear hW hX19 hP19 hBx hB19 cx fx
                  refine hK'.out _ _ (by exact trivial) (fun hHeld => ?_)
                  clear hK' K
                  refine wpAnyH_done (by kernel_rfl) ?_ _
                  go_wp2_with fail
                  go_roundw
                  case rel => exact ⟨i + 1, _, _, _, _, by have := hlt''.out; omega, by go_num, hA20.out, hB20.out⟩
                  case measure => have := hlt''.out; simp [intOf]; omega
                · skip
                  have hK' := hid hK
                  clear hK
                  rw [if_pos (by kernel_rfl)]
                  simp only [ly1, ly2, ly3]
                  refine wp_run' (.slice (some ⟨W17.heap.size, 0, none⟩) 1 1) (W17.alloc (.cells #[.string z] 9)) (by kernel_rfl) ?_
                  obtain ⟨gn8, hgn⟩ : ∃ g, W17.heap.size = g := ⟨_, rfl⟩
                  generalize hW : World.alloc _ _ = W18
                  obtain ⟨hN, hb⟩ := new_at7 hW
                  rw [hgn] at hN ⊢
                  clear hW hgn
                  have hA18 := hid (hA17.out.on hb)
                  have hB18 := hid (bup hb hB17.out)
                  have hZ18 := hid (hZ17.out.below hb hZ17.out.lt)
                  have hN18 := hid hN
                  clear hb hA17 hB17 hZ17 hN
                  refine hK'.out _ _ (by exact trivial) (fun hHeld => ?_)
                  clear hK' K
                  refine wpAnyH_ready (rs := [4]) (by kernel_rfl) (by simp) (AllReadyH.cons rfl (fun K hK => ?_) AllReadyH.nil)
                  have hK' := hid hK
                  clear hK
                  rw [if_pos (by kernel_rfl)]
                  simp only [ly1, ly2, ly3]
                  have cx := hA18.out.own.cK 1 _ rfl
                  go_simp
                  clear cx
                  refine hK'.out _ _ (by exact trivial) (fun hHeld => ?_)
                  clear hK' K
                  refine wpAnyH_ready (rs := [8]) (by kernel_rfl) (by simp) (AllReadyH.cons rfl (fun K hK => ?_) AllReadyH.nil)
                  have hK' := hid hK
                  clear hK
                  rw [if_pos (by kernel_rfl)]
                  simp only [ly1, ly2, ly3]
                  refine wp_append_lies W18 (.tmp 36) (.tmp 39) 90 rfl (x + 1) 9 it (.string ⟨#[]⟩) 1 16 Tryz.underlying90 hit'.out hitz'.out hits'.out hitb'.out rfl (by decide) (.slice A2 i c2) i (strs (List.replicate i z)) rfl hA18.out.r2 ⟨gn8, 0, none⟩ 1 1 [.string z] rfl rfl (by intro j u hu; match j, hu with | 0, hu => (obtain rfl := Option.some.inj hu; exact hN18.out.cK 0 _ rfl)) (by intro u hu; rw [List.mem_singleton.1 hu]; rfl) (by decide) (by unfold maxLen; have := hi1.out; omega) (by have := hi1.out; omega) (by have := hA18.out.own.lt; omega) _ rfl ?_
                  intro g8 cap8 W19 ho hg hl _
                  have hp := hA18.out.push2 ho hg hl
                  have hX19 := hid hp.1
                  have hP19 := hid hp.2
                  have hB19 := hid (hB18.out.grown hg hB18.out.size (fun k e => by have h1 := (hA18.out.r2.lt k e).1; have h2 := hx'.out; omega))
                  clear hp ho hg hl hA18 hB18 hZ18 hN18
                  refine hK'.out _ _ (by exact trivial) (fun hHeld => ?_)
                  clear hK' K
                  refine tkn 9 (.pointer (some ⟨x, 0, none⟩)) rfl (by kernel_rfl) (fun _ _ _ h => h) (.inl ⟨by kernel_rfl, fun w _ => by go_simp⟩) hHeld ?_
                  simp only [ly, Act.put]
                  refine tkn 10 (.pointer (some ⟨x, 1, none⟩)) rfl (by kernel_rfl) (fun _ _ _ h => h) (.inl ⟨by kernel_rfl, fun w _ => by go_simp⟩) hHeld ?_
                  simp only [ly, Act.put]
                  refine wpAnyH_ready (rs := [11]) (by kernel_rfl) (by simp) (AllReadyH.cons rfl (fun K hK => ?_) AllReadyH.nil)
                  have hK' := hid hK
                  clear hK
                  rw [if_pos (by kernel_rfl)]
                  simp only [ly1, ly2, ly3]
                  have cx := hX19.out.cK 1 _ rfl
                  have fx := hX19.out.frozen 1
                  have hBx := hid (hB19.out.setCell (p := ⟨x, 1, none⟩) (by show w.heap.size ≤ x; have := hx'.out; omega) (.slice (some ⟨g8, 0, none⟩) (i + 1) cap8))
                  go_simp
                  obtain ⟨W20, hW⟩ : ∃ V, W19.setCell ⟨x, 1, none⟩ (.slice (some ⟨g8, 0, none⟩) (i + 1) cap8) = V := ⟨_, rfl⟩
                  rw [hW] at hP19 hBx ⊢
                  have hA20 := hid hP19.out
                  have hB20 := hid hBx.out
                  clear hW hX19 hP19 hBx hB19 cx fx
                  refine hK'.out _ _ (by exact trivial) (fun hHeld => ?_)
                  clear hK' K
                  refine wpAnyH_done (by kernel_rfl) ?_ _
                  go_wp2_with fail
                  go_roundw
                  case rel => exact ⟨i + 1, _, _, _, _, by have := hlt''.out; omega, by go_num, hA20.out, hB20.out⟩
                  case measure => have := hlt''.out; simp [intOf]; omega
          · skip
            have hK' := hid hK
            clear hK
            rw [if_pos (by kernel_rfl)]
            simp only [ly1, ly2, ly3]
            refine wp_run' (.slice (some ⟨W12.heap.size, 0, none⟩) 1 1) (W12.alloc (.cells #[.string z] 9)) (by kernel_rfl) ?_
            obtain ⟨gn7, hgn⟩ : ∃ g, W12.heap.size = g := ⟨_, rfl⟩
            generalize hW : World.alloc _ _ = W13
            obtain ⟨hN, hb⟩ := new_at7 hW
            rw [hgn] at hN ⊢
            clear hW hgn
            have hA13 := hid (hA12.out.on hb)
            have hB13 := hid (bup hb hB12.out)
            have hZ13 := hid (hZ12.out.below hb hZ12.out.lt)
            have hN13 := hid hN
            clear hb hA12 hB12 hZ12 hN
            refine hK'.out _ _ (by exact trivial) (fun hHeld => ?_)
            clear hK' K
            refine wpAnyH_ready (rs := [4]) (by kernel_rfl) (by simp) (AllReadyH.cons rfl (fun K hK => ?_) AllReadyH.nil)
            have hK' := hid hK
            clear hK
            rw [if_pos (by kernel_rfl)]
            simp only [ly1, ly2, ly3]
            have cx := hA13.out.own.cK 0 _ rfl
            go_simp
            clear cx
            refine hK'.out _ _ (by exact trivial) (fun hHeld => ?_)
            clear hK' K
            refine wpAnyH_ready (rs := [8]) (by kernel_rfl) (by simp) (AllReadyH.cons rfl (fun K hK => ?_) AllReadyH.nil)
            have hK' := hid hK
            clear hK
            rw [if_pos (by kernel_rfl)]
            simp only [ly1, ly2, ly3]
            refine wp_append_lies W13 (.tmp 25) (.tmp 28) 90 rfl (x + 1) 9 it (.string ⟨#[]⟩) 1 16 Tryz.underlying90 hit'.out hitz'.out hits'.out hitb'.out rfl (by decide) (.slice A1 i c1) i (strs (List.replicate i z)) rfl hA13.out.r1 ⟨gn7, 0, none⟩ 1 1 [.string z] rfl rfl (by intro j u hu; match j, hu with | 0, hu => (obtain rfl := Option.some.inj hu; exact hN13.out.cK 0 _ rfl)) (by intro u hu; rw [List.mem_singleton.1 hu]; rfl) (by decide) (by unfold maxLen; have := hi1.out; omega) (by have := hi1.out; omega) (by have := hA13.out.own.lt; omega) _ rfl ?_
            intro g7 cap7 W14 ho hg hl _
            have hp := hA13.out.push1 ho hg hl
            have hX14 := hid hp.1
            have hP14 := hid hp.2
            have hB14 := hid (hB13.out.grown hg hB13.out.size (fun k e => by have h1 := (hA13.out.r1.lt k e).1; have h2 := hx'.out; omega))
            clear hp ho hg hl hA13 hB13 hZ13 hN13
            refine hK'.out _ _ (by exact trivial) (fun hHeld => ?_)
            clear hK' K
            refine tkn 9 (.pointer (some ⟨x, 0, none⟩)) rfl (by kernel_rfl) (fun _ _ _ h => h) (.inl ⟨by kernel_rfl, fun w _ => by go_simp⟩) hHeld ?_
            simp only [ly, Act.put]
            refine tkn 10 (.pointer (some ⟨x, 0, none⟩)) rfl (by kernel_rfl) (fun _ _ _ h => h) (.inl ⟨by kernel_rfl, fun w _ => by go_simp⟩) hHeld ?_
            simp only [ly, Act.put]
            refine wpAnyH_ready (rs := [11]) (by kernel_rfl) (by simp) (AllReadyH.cons rfl (fun K hK => ?_) AllReadyH.nil)
            have hK' := hid hK
            clear hK
            rw [if_pos (by kernel_rfl)]
            simp only [ly1, ly2, ly3]
            have cx := hX14.out.cK 0 _ rfl
            have fx := hX14.out.frozen 0
            have hBx := hid (hB14.out.setCell (p := ⟨x, 0, none⟩) (by show w.heap.size ≤ x; have := hx'.out; omega) (.slice (some ⟨g7, 0, none⟩) (i + 1) cap7))
            go_simp
            obtain ⟨W15, hW⟩ : ∃ V, W14.setCell ⟨x, 0, none⟩ (.slice (some ⟨g7, 0, none⟩) (i + 1) cap7) = V := ⟨_, rfl⟩
            rw [hW] at hP14 hBx ⊢
            have hA15 := hid hP14.out
            have hB15 := hid hBx.out
            clear hW hX14 hP14 hBx hB14 cx fx
            refine hK'.out _ _ (by exact trivial) (fun hHeld => ?_)
            clear hK' K
            refine wpAnyH_done (by kernel_rfl) ?_ _
            go_wp2_with fail
            skip
            have hb : Below W15.heap.size W15 W15.drew := (Below.refl _ _).drew
            have hA16 := hid (hA15.out.on hb)
            have hB16 := hid (bup hb hB15.out)
            clear hb hA15 hB15
            refine wp_region_held_drew (S := fun _ => True) (by kernel_rfl) (by exact trivial) (fun hHeld => ?_)
            generalize W15.drew = W16 at *
            refine tkn 0 (.pointer (some ⟨x, 0, none⟩)) rfl (by kernel_rfl) (fun _ _ _ h => h) (yieldsIf_move _ rfl rfl rfl) hHeld ?_
            simp only [ly, Act.put]
            refine tkn 1 (.pointer (some ⟨x, 0, none⟩)) rfl (by kernel_rfl) (fun _ _ _ h => h) (yieldsIf_move _ rfl rfl rfl) hHeld ?_
            simp only [ly, Act.put]
            refine tkn 2 (.pointer (some ⟨x, 0, none⟩)) rfl (by kernel_rfl) (fun _ _ _ h => h) (.inl ⟨by kernel_rfl, fun w _ => by go_simp⟩) hHeld ?_
            simp only [ly, Act.put]
            refine tkn 3 (.pointer (some ⟨x, 1, none⟩)) rfl (by kernel_rfl) (fun _ _ _ h => h) (.inl ⟨by kernel_rfl, fun w _ => by go_simp⟩) hHeld ?_
            simp only [ly, Act.put]
            refine wpAnyH_ready (rs := [4, 5]) (by kernel_rfl) (by simp) (AllReadyH.cons rfl (fun K hK => ?_) (AllReadyH.cons rfl (fun K hK => ?_) AllReadyH.nil))
            · skip
              have hK' := hid hK
              clear hK
              rw [if_pos (by kernel_rfl)]
              simp only [ly1, ly2, ly3]
              have cx := hA16.out.own.cK 1 _ rfl
              go_simp
              clear cx
              refine hK'.out _ _ (by exact trivial) (fun hHeld => ?_)
              clear hK' K
              refine wpAnyH_ready (rs := [5]) (by kernel_rfl) (by simp) (AllReadyH.cons rfl (fun K hK => ?_) AllReadyH.nil)
              have hK' := hid hK
              clear hK
              rw [if_pos (by kernel_rfl)]
              simp only [ly1, ly2, ly3]
              refine wp_run' (.slice (some ⟨W16.heap.size, 0, none⟩) 64 64) (W16.alloc (.cells zSc 5)) (by kernel_rfl) ?_
              obtain ⟨gz8, hgz⟩ : ∃ g, W16.heap.size = g := ⟨_, rfl⟩
              generalize hW : World.alloc _ _ = W17
              obtain ⟨hN, hb⟩ := new_at7 hW
              rw [hgz] at hN ⊢
              clear hW hgz
              have hA17 := hid (hA16.out.on hb)
              have hB17 := hid (bup hb hB16.out)
              have hZ17 := hid hN
              clear hb hA16 hB16 hN
              refine hK'.out _ _ (by exact trivial) (fun hHeld => ?_)
              clear hK' K
              refine wpAnyH_ready (rs := [6]) (by kernel_rfl) (by simp) (AllReadyH.cons rfl (fun K hK => ?_) AllReadyH.nil)
              have hK' := hid hK
              clear hK
              rw [if_pos (by kernel_rfl)]
              simp only [ly1, ly2, ly3]
              refine wp_conv 82 9 (.tmp 37) rfl (.slice (some ⟨gz8, 0, none⟩) 64 64) (.string z) _ rfl (by exact run_convert_block (P := Tryz.prog) (t := 5) (e := 5) 82 9 Tryz.underlying82 Tryz.underlying5 Tryz.underlying9 (g := gz8) (c := 64) (n := 64) (s := z) hz64.out.symm hZ17.out (by exact hzc.out)) ?_
              refine hK'.out _ _ (by exact trivial) (fun hHeld => ?_)
              clear hK' K
              refine wpAnyH_ready (rs := [7]) (by kernel_rfl) (by simp) (AllReadyH.cons rfl (fun K hK => ?_) AllReadyH.nil)
              have hK' := hid hK
              clear hK
              rw [if_pos (by kernel_rfl)]
              simp only [ly1, ly2, ly3]
              refine wp_run' (.slice (some ⟨W17.heap.size, 0, none⟩) 1 1) (W17.alloc (.cells #[.string z] 9)) (by kernel_rfl) ?_
              obtain ⟨gn8, hgn⟩ : ∃ g, W17.heap.size = g := ⟨_, rfl⟩
              generalize hW : World.alloc _ _ = W18
              obtain ⟨hN, hb⟩ := new_at7 hW
              rw [hgn] at hN ⊢
              clear hW hgn
              have hA18 := hid (hA17.out.on hb)
              have hB18 := hid (bup hb hB17.out)
              have hZ18 := hid (hZ17.out.below hb hZ17.out.lt)
              have hN18 := hid hN
              clear hb hA17 hB17 hZ17 hN
              refine hK'.out _ _ (by exact trivial) (fun hHeld => ?_)
              clear hK' K
              refine wpAnyH_ready (rs := [8]) (by kernel_rfl) (by simp) (AllReadyH.cons rfl (fun K hK => ?_) AllReadyH.nil)
              have hK' := hid hK
              clear hK
              rw [if_pos (by kernel_rfl)]
              simp only [ly1, ly2, ly3]
              refine wp_append_lies W18 (.tmp 36) (.tmp 39) 90 rfl (x + 1) 9 it (.string ⟨#[]⟩) 1 16 Tryz.underlying90 hit'.out hitz'.out hits'.out hitb'.out rfl (by decide) (.slice A2 i c2) i (strs (List.replicate i z)) rfl hA18.out.r2 ⟨gn8, 0, none⟩ 1 1 [.string z] rfl rfl (by intro j u hu; match j, hu with | 0, hu => (obtain rfl := Option.some.inj hu; exact hN18.out.cK 0 _ rfl)) (by intro u hu; rw [List.mem_singleton.1 hu]; rfl) (by decide) (by unfold maxLen; have := hi1.out; omega) (by have := hi1.out; omega) (by have := hA18.out.own.lt; omega) _ rfl ?_
              intro g8 cap8 W19 ho hg hl _
              have hp := hA18.out.push2 ho hg hl
              have hX19 := hid hp.1
              have hP19 := hid hp.2
              have hB19 := hid (hB18.out.grown hg hB18.out.size (fun k e => by have h1 := (hA18.out.r2.lt k e).1; have h2 := hx'.out; omega))
              clear hp ho hg hl hA18 hB18 hZ18 hN18
              refine hK'.out _ _ (by exact trivial) (fun hHeld => ?_)
              clear hK' K
              refine tkn 9 (.pointer (some ⟨x, 0, none⟩)) rfl (by kernel_rfl) (fun _ _ _ h => h) (.inl ⟨by kernel_rfl, fun w _ => by go_simp⟩) hHeld ?_
              simp only [ly, Act.put]
              refine tkn 10 (.pointer (some ⟨x, 1, none⟩)) rfl (by kernel_rfl) (fun _ _ _ h => h) (.inl ⟨by kernel_rfl, fun w _ => by go_simp⟩) hHeld ?_
              simp only [ly, Act.put]
              refine wpAnyH_ready (rs := [11]) (by kernel_rfl) (by simp) (AllReadyH.cons rfl (fun K hK => ?_) AllReadyH.nil)
              have hK' := hid hK
              clear hK
              rw [if_pos (by kernel_rfl)]
              simp only [ly1, ly2, ly3]
              have cx := hX19.out.cK 1 _ rfl
              have fx := hX19.out.frozen 1
              have hBx := hid (hB19.out.setCell (p := ⟨x, 1, none⟩) (by show w.heap.size ≤ x; have := hx'.out; omega) (.slice (some ⟨g8, 0, none⟩) (i + 1) cap8))
              go_simp
              obtain ⟨W20, hW⟩ : ∃ V, W19.setCell ⟨x, 1, none⟩ (.slice (some ⟨g8, 0, none⟩) (i + 1) cap8) = V := ⟨_, rfl⟩
              rw [hW] at hP19 hBx ⊢
              have hA20 := hid hP19.out
              have hB20 := hid hBx.out
              clear hW hX19 hP19 hBx hB19 cx fx
              refine hK'.out _ _ (by exact trivial) (fun hHeld => ?_)
              clear hK' K
              refine wpAnyH_done (by kernel_rfl) ?_ _
              go_wp2_with fail
              go_roundw
              case rel => exact ⟨i + 1, _, _, _, _, by have := hlt''.out; omega, by go_num, hA20.out, hB20.out⟩
              case measure => have := hlt''.out; simp [intOf]; omega
            · skip
              have hK' := hid hK
              clear hK
              rw [if_pos (by kernel_rfl)]
              simp only [ly1, ly2, ly3]
              refine wp_run' (.slice (some ⟨W16.heap.size, 0, none⟩) 64 64) (W16.alloc (.cells zSc 5)) (by kernel_rfl) ?_
              obtain ⟨gz8, hgz⟩ : ∃ g, W16.heap.size = g := ⟨_, rfl⟩
              generalize hW : World.alloc _ _ = W17
              obtain ⟨hN, hb⟩ := new_at7 hW
              rw [hgz] at hN ⊢
              clear hW hgz
              have hA17 := hid (hA16.out.on hb)
              have hB17 := hid (bup hb hB16.out)
              have hZ17 := hid hN
              clear hb hA16 hB16 hN
              refine hK'.out _ _ (by exact trivial) (fun hHeld => ?_)
              clear hK' K
              refine wpAnyH_ready (rs := [4, 6]) (by kernel_rfl) (by simp) (AllReadyH.cons rfl (fun K hK => ?_) (AllReadyH.cons rfl (fun K hK => ?_) AllReadyH.nil))
              · skip
                have hK' := hid hK
                clear hK
                rw [if_pos (by kernel_rfl)]
                simp only [ly1, ly2, ly3]
                have cx := hA17.out.own.cK 1 _ rfl
                go_simp
                clear cx
                refine hK'.out _ _ (by exact trivial) (fun hHeld => ?_)
                clear hK' K
                refine wpAnyH_ready (rs := [6]) (by kernel_rfl) (by simp) (AllReadyH.cons rfl (fun K hK => ?_) AllReadyH.nil)
                have hK' := hid hK
                clear hK
                rw [if_pos (by kernel_rfl)]
                simp only [ly1, ly2, ly3]
                refine wp_conv 82 9 (.tmp 37) rfl (.slice (some ⟨gz8, 0, none⟩) 64 64) (.string z) _ rfl (by exact run_convert_block (P := Tryz.prog) (t := 5) (e := 5) 82 9 Tryz.underlying82 Tryz.underlying5 Tryz.underlying9 (g := gz8) (c := 64) (n := 64) (s := z) hz64.out.symm hZ17.out (by exact hzc.out)) ?_
                refine hK'.out _ _ (by exact trivial) (fun hHeld => ?_)
                clear hK' K
                refine wpAnyH_ready (rs := [7]) (by kernel_rfl) (by simp) (AllReadyH.cons rfl (fun K hK => ?_) AllReadyH.nil)
                have hK' := hid hK
                clear hK
                rw [if_pos (by kernel_rfl)]
                simp only [ly1, ly2, ly3]
                refine wp_run' (.slice (some ⟨W17.heap.size, 0, none⟩) 1 1) (W17.alloc (.cells #[.string z] 9)) (by kernel_rfl) ?_
                obtain ⟨gn8, hgn⟩ : ∃ g, W17.heap.size = g := ⟨_, rfl⟩
                generalize hW : World.alloc _ _ = W18
                obtain ⟨hN, hb⟩ := new_at7 hW
                rw [hgn] at hN ⊢
                clear hW hgn
                have hA18 := hid (hA17.out.on hb)
                have hB18 := hid (bup hb hB17.out)
                have hZ18 := hid (hZ17.out.below hb hZ17.out.lt)
                have hN18 := hid hN
                clear hb hA17 hB17 hZ17 hN
                refine hK'.out _ _ (by exact trivial) (fun hHeld => ?_)
                clear hK' K
                refine wpAnyH_ready (rs := [8]) (by kernel_rfl) (by simp) (AllReadyH.cons rfl (fun K hK => ?_) AllReadyH.nil)
                have hK' := hid hK
                clear hK
                rw [if_pos (by kernel_rfl)]
                simp only [ly1, ly2, ly3]
                refine wp_append_lies W18 (.tmp 36) (.tmp 39) 90 rfl (x + 1) 9 it (.string ⟨#[]⟩) 1 16 Tryz.underlying90 hit'.out hitz'.out hits'.out hitb'.out rfl (by decide) (.slice A2 i c2) i (strs (List.replicate i z)) rfl hA18.out.r2 ⟨gn8, 0, none⟩ 1 1 [.string z] rfl rfl (by intro j u hu; match j, hu with | 0, hu => (obtain rfl := Option.some.inj hu; exact hN18.out.cK 0 _ rfl)) (by intro u hu; rw [List.mem_singleton.1 hu]; rfl) (by decide) (by unfold maxLen; have := hi1.out; omega) (by have := hi1.out; omega) (by have := hA18.out.own.lt; omega) _ rfl ?_
                intro g8 cap8 W19 ho hg hl _
                have hp := hA18.out.push2 ho hg hl
                have hX19 := hid hp.1
                have hP19 := hid hp.2
                have hB19 := hid (hB18.out.grown hg hB18.out.size (fun k e => by have h1 := (hA18.out.r2.lt k e).1; have h2 := hx'.out; omega))
                clear hp ho hg hl hA18 hB18 hZ18 hN18
                refine hK'.out _ _ (by exact trivial) (fun hHeld => ?_)
                clear hK' K
                refine tkn 9 (.pointer (some ⟨x, 0, none⟩)) rfl (by kernel_rfl) (fun _ _ _ h => h) (.inl ⟨by kernel_rfl, fun w _ => by go_simp⟩) hHeld ?_
                simp only [ly, Act.put]
                refine tkn 10 (.pointer (some ⟨x, 1, none⟩)) rfl (by kernel_rfl) (fun _ _ _ h => h) (.inl ⟨by kernel_rfl, fun w _ => by go_simp⟩) hHeld ?_
                simp only [ly, Act.put]
                refine wpAnyH_ready (rs := [11]) (by kernel_rfl) (by simp) (AllReadyH.cons rfl (fun K hK => ?_) AllReadyH.nil)
                have hK' := hid hK
                clear hK
                rw [if_pos (by kernel_rfl)]
                simp only [ly1, ly2, ly3]
                have cx := hX19.out.cK 1 _ rfl
                have fx := hX19.out.frozen 1
                have hBx := hid (hB19.out.setCell (p := ⟨x, 1, none⟩) (by show w.heap.size ≤ x; have := hx'.out; omega) (.slice (some ⟨g8, 0, none⟩) (i + 1) cap8))
                go_simp
                obtain ⟨W20, hW⟩ : ∃ V, W19.setCell ⟨x, 1, none⟩ (.slice (some ⟨g8, 0, none⟩) (i + 1) cap8) = V := ⟨_, rfl⟩
                rw [hW] at hP19 hBx ⊢
                have hA20 := hid hP19.out
                have hB20 := hid hBx.out
                clear hW hX19 hP19 hBx hB19 cx fx
                refine hK'.out _ _ (by exact trivial) (fun hHeld => ?_)
                clear hK' K
                refine wpAnyH_done (by kernel_rfl) ?_ _
                go_wp2_with fail
                go_roundw
                case rel => exact ⟨i + 1, _, _, _, _, by have := hlt''.out; omega, by go_num, hA20.out, hB20.out⟩
                case measure => have := hlt''.out; simp [intOf]; omega
              · skip
                have hK' := hid hK
                clear hK
                rw [if_pos (by kernel_rfl)]
                simp only [ly1, ly2, ly3]
                refine wp_conv 82 9 (.tmp 37) rfl (.slice (some ⟨gz8, 0, none⟩) 64 64) (.string z) _ rfl (by exact run_convert_block (P := Tryz.prog) (t := 5) (e := 5) 82 9 Tryz.underlying82 Tryz.underlying5 Tryz.underlying9 (g := gz8) (c := 64) (n := 64) (s := z) hz64.out.symm hZ17.out (by exact hzc.out)) ?_
                refine hK'.out _ _ (by exact trivial) (fun hHeld => ?_)
                clear hK' K
                refine wpAnyH_ready (rs := [4, 7]) (by kernel_rfl) (by simp) (AllReadyH.cons rfl (fun K hK => ?_) (AllReadyH.cons rfl (fun K hK => ?_) AllReadyH.nil))
                · skip
                  have hK' := hid hK
                  clear hK
                  rw [if_pos (by kernel_rfl)]
                  simp only [ly1, ly2, ly3]
                  have cx := hA17.out.own.cK 1 _ rfl
                  go_simp
                  clear cx
                  refine hK'.out _ _ (by exact trivial) (fun hHeld => ?_)
                  clear hK' K
                  refine wpAnyH_ready (rs := [7]) (by kernel_rfl) (by simp) (AllReadyH.cons rfl (fun K hK => ?_) AllReadyH.nil)
                  have hK' := hid hK
                  clear hK
                  rw [if_pos (by kernel_rfl)]
                  simp only [ly1, ly2, ly3]
                  refine wp_run' (.slice (some ⟨W17.heap.size, 0, none⟩) 1 1) (W17.alloc (.cells #[.string z] 9)) (by kernel_rfl) ?_
                  obtain ⟨gn8, hgn⟩ : ∃ g, W17.heap.size = g := ⟨_, rfl⟩
                  generalize hW : World.alloc _ _ = W18
                  obtain ⟨hN, hb⟩ := new_at7 hW
                  rw [hgn] at hN ⊢
                  clear hW hgn
                  have hA18 := hid (hA17.out.on hb)
                  have hB18 := hid (bup hb hB17.out)
                  have hZ18 := hid (hZ17.out.below hb hZ17.out.lt)
                  have hN18 := hid hN
                  clear hb hA17 hB17 hZ17 hN
                  refine hK'.out _ _ (by exact trivial) (fun hHeld => ?_)
                  clear hK' K
                  refine wpAnyH_ready (rs := [8]) (by kernel_rfl) (by simp) (AllReadyH.cons rfl (fun K hK => ?_) AllReadyH.nil)
                  have hK' := hid hK
                  clear hK
                  rw [if_pos (by kernel_rfl)]
                  simp only [ly1, ly2, ly3]
                  refine wp_append_lies W18 (.tmp 36) (.tmp 39) 90 rfl (x + 1) 9 it (.string ⟨#[]⟩) 1 16 Tryz.underlying90 hit'.out hitz'.out hits'.out hitb'.out rfl (by decide) (.slice A2 i c2) i (strs (List.replicate i z)) rfl hA18.out.r2 ⟨gn8, 0, none⟩ 1 1 [.string z] rfl rfl (by intro j u hu; match j, hu with | 0, hu => (obtain rfl := Option.some.inj hu; exact hN18.out.cK 0 _ rfl)) (by intro u hu; rw [List.mem_singleton.1 hu]; rfl) (by decide) (by unfold maxLen; have := hi1.out; omega) (by have := hi1.out; omega) (by have := hA18.out.own.lt; omega) _ rfl ?_
                  intro g8 cap8 W19 ho hg hl _
                  have hp := hA18.out.push2 ho hg hl
                  have hX19 := hid hp.1
                  have hP19 := hid hp.2
                  have hB19 := hid (hB18.out.grown hg hB18.out.size (fun k e => by have h1 := (hA18.out.r2.lt k e).1; have h2 := hx'.out; omega))
                  clear hp ho hg hl hA18 hB18 hZ18 hN18
                  refine hK'.out _ _ (by exact trivial) (fun hHeld => ?_)
                  clear hK' K
                  refine tkn 9 (.pointer (some ⟨x, 0, none⟩)) rfl (by kernel_rfl) (fun _ _ _ h => h) (.inl ⟨by kernel_rfl, fun w _ => by go_simp⟩) hHeld ?_
                  simp only [ly, Act.put]
                  refine tkn 10 (.pointer (some ⟨x, 1, none⟩)) rfl (by kernel_rfl) (fun _ _ _ h => h) (.inl ⟨by kernel_rfl, fun w _ => by go_simp⟩) hHeld ?_
                  simp only [ly, Act.put]
                  refine wpAnyH_ready (rs := [11]) (by kernel_rfl) (by simp) (AllReadyH.cons rfl (fun K hK => ?_) AllReadyH.nil)
                  have hK' := hid hK
                  clear hK
                  rw [if_pos (by kernel_rfl)]
                  simp only [ly1, ly2, ly3]
                  have cx := hX19.out.cK 1 _ rfl
                  have fx := hX19.out.frozen 1
                  have hBx := hid (hB19.out.setCell (p := ⟨x, 1, none⟩) (by show w.heap.size ≤ x; have := hx'.out; omega) (.slice (some ⟨g8, 0, none⟩) (i + 1) cap8))
                  go_simp
                  obtain ⟨W20, hW⟩ : ∃ V, W19.setCell ⟨x, 1, none⟩ (.slice (some ⟨g8, 0, none⟩) (i + 1) cap8) = V := ⟨_, rfl⟩
                  rw [hW] at hP19 hBx ⊢
                  have hA20 := hid hP19.out
                  have hB20 := hid hBx.out
                  clear hW hX19 hP19 hBx hB19 cx fx
                  refine hK'.out _ _ (by exact trivial) (fun hHeld => ?_)
                  clear hK' K
                  refine wpAnyH_done (by kernel_rfl) ?_ _
                  go_wp2_with fail
                  go_roundw
                  case rel => exact ⟨i + 1, _, _, _, _, by have := hlt''.out; omega, by go_num, hA20.out, hB20.out⟩
                  case measure => have := hlt''.out; simp [intOf]; omega
                · skip
                  have hK' := hid hK
                  clear hK
                  rw [if_pos (by kernel_rfl)]
                  simp only [ly1, ly2, ly3]
                  refine wp_run' (.slice (some ⟨W17.heap.size, 0, none⟩) 1 1) (W17.alloc (.cells #[.string z] 9)) (by kernel_rfl) ?_
                  obtain ⟨gn8, hgn⟩ : ∃ g, W17.heap.size = g := ⟨_, rfl⟩
                  generalize hW : World.alloc _ _ = W18
                  obtain ⟨hN, hb⟩ := new_at7 hW
                  rw [hgn] at hN ⊢
                  clear hW hgn
                  have hA18 := hid (hA17.out.on hb)
                  have hB18 := hid (bup hb hB17.out)
                  have hZ18 := hid (hZ17.out.below hb hZ17.out.lt)
                  have hN18 := hid hN
                  clear hb hA17 hB17 hZ17 hN
                  refine hK'.out _ _ (by exact trivial) (fun hHeld => ?_)
                  clear hK' K
                  refine wpAnyH_ready (rs := [4]) (by kernel_rfl) (by simp) (AllReadyH.cons rfl (fun K hK => ?_) AllReadyH.nil)
                  have hK' := hid hK
                  clear hK
                  rw [if_pos (by kernel_rfl)]
                  simp only [ly1, ly2, ly3]
                  have cx := hA18.out.own.cK 1 _ rfl
                  go_simp
                  clear cx
                  refine hK'.out _ _ (by exact trivial) (fun hHeld => ?_)
                  clear hK' K
                  refine wpAnyH_ready (rs := [8]) (by kernel_rfl) (by simp) (AllReadyH.cons rfl (fun K hK => ?_) AllReadyH.nil)
                  have hK' := hid hK
                  clear hK
                  rw [if_pos (by kernel_rfl)]
                  simp only [ly1, ly2, ly3]
                  refine wp_append_lies W18 (.tmp 36) (.tmp 39) 90 rfl (x + 1) 9 it (.string ⟨#[]⟩) 1 16 Tryz.underlying90 hit'.out hitz'.out hits'.out hitb'.out rfl (by decide) (.slice A2 i c2) i (strs (List.replicate i z)) rfl hA18.out.r2 ⟨gn8, 0, none⟩ 1 1 [.string z] rfl rfl (by intro j u hu; match j, hu with | 0, hu => (obtain rfl := Option.some.inj hu; exact hN18.out.cK 0 _ rfl)) (by intro u hu; rw [List.mem_singleton.1 hu]; rfl) (by decide) (by unfold maxLen; have := hi1.out; omega) (by have := hi1.out; omega) (by have := hA18.out.own.lt; omega) _ rfl ?_
                  intro g8 cap8 W19 ho hg hl _
                  have hp := hA18.out.push2 ho hg hl
                  have hX19 := hid hp.1
                  have hP19 := hid hp.2
                  have hB19 := hid (hB18.out.grown hg hB18.out.size (fun k e => by have h1 := (hA18.out.r2.lt k e).1; have h2 := hx'.out; omega))
                  clear hp ho hg hl hA18 hB18 hZ18 hN18
                  refine hK'.out _ _ (by exact trivial) (fun hHeld => ?_)
                  clear hK' K
                  refine tkn 9 (.pointer (some ⟨x, 0, none⟩)) rfl (by kernel_rfl) (fun _ _ _ h => h) (.inl ⟨by kernel_rfl, fun w _ => by go_simp⟩) hHeld ?_
                  simp only [ly, Act.put]
                  refine tkn 10 (.pointer (some ⟨x, 1, none⟩)) rfl (by kernel_rfl) (fun _ _ _ h => h) (.inl ⟨by kernel_rfl, fun w _ => by go_simp⟩) hHeld ?_
                  simp only [ly, Act.put]
                  refine wpAnyH_ready (rs := [11]) (by kernel_rfl) (by simp) (AllReadyH.cons rfl (fun K hK => ?_) AllReadyH.nil)
                  have hK' := hid hK
                  clear hK
                  rw [if_pos (by kernel_rfl)]
                  simp only [ly1, ly2, ly3]
                  have cx := hX19.out.cK 1 _ rfl
                  have fx := hX19.out.frozen 1
                  have hBx := hid (hB19.out.setCell (p := ⟨x, 1, none⟩) (by show w.heap.size ≤ x; have := hx'.out; omega) (.slice (some ⟨g8, 0, none⟩) (i + 1) cap8))
                  go_simp
                  obtain ⟨W20, hW⟩ : ∃ V, W19.setCell ⟨x, 1, none⟩ (.slice (some ⟨g8, 0, none⟩) (i + 1) cap8) = V := ⟨_, rfl⟩
                  rw [hW] at hP19 hBx ⊢
                  have hA20 := hid hP19.out
                  have hB20 := hid hBx.out
                  clear hW hX19 hP19 hBx hB19 cx fx
                  refine hK'.out _ _ (by exact trivial) (fun hHeld => ?_)
                  clear hK' K
                  refine wpAnyH_done (by kernel_rfl) ?_ _
                  go_wp2_with fail
                  go_roundw
                  case rel => exact ⟨i + 1, _, _, _, _, by have := hlt''.out; omega, by go_num, hA20.out, hB20.out⟩
                  case measure => have := hlt''.out; simp [intOf]; omega
    · obtain rfl : i = n := by omega
      go_wp2_with fail
      go_ret2
      have hA := hA10.out
      obtain ⟨hown, hr1, hr2, hap, hfl, hgx⟩ := hA
      rcases hr1.2 with ⟨_, h0⟩ | ⟨g1, cap1, cur1, hv1, hb1, _⟩
      · omega
      · rcases hr2.2 with ⟨_, h0⟩ | ⟨g2, cap2, cur2, hv2, hb2, _⟩
        · omega
        · rw [hv1] at hr1 hap
          rw [hv2] at hr2 hap
          rw [hv1, hv2] at hown
          have hx1 := hx'.out
          have hg1 := hg3'.out
          refine ⟨g1, cap1, g2, cap2, congrArg (fun k : Nat => Ending.returned (.tuple #[.pointer (some ⟨k, 0, none⟩), .int .i64 0])) hx1.symm, ?_, hB10.out⟩
          rw [hx1, hg1]
          have hf := Dk.fine.new i
          show RDiskAt W10 g3 x g1 cap1 g2 cap2 g3 i (Dk.new i).xs (thnD i (Dk.new i)) (flD i (Dk.new i))
          rw [thnD_clean hf rfl, flD_clean rfl]
          have hxs : (Dk.new i).xs = List.replicate i z := by show List.replicate i (zeroS 64) = _; rw [hz'.out]
          rw [hxs]
          exact ⟨hown, row_less hr1 (by omega), row_less hr2 (by omega), hfl, List.length_replicate .., fun e => hap g1 rfl (by rw [e]; rfl), h2'.out, h1, by omega⟩


end Go.Proofs.YtmgaegaibglnhaaGreat
namespace Go.Proofs.YtmgaegaibglnhaaGreat
open Go.RowKit
open Go.Lib (strCells strCells_length strCells_oneCell)

/-- Where both disks lie. -/
structure DL where
  B : Nat
  d : Nat
  r : Nat
  b : Nat
  x : Nat
  g1 : Nat
  c1 : Nat
  g2 : Nat
  c2 : Nat
  g3 : Nat
  n : Nat
/-- The program's disk holds D, the document's E. -/
structure TwoD (w : World) (L : DL) (D E : Dk) : Prop where
  own : DiskAt w L.d L.r L.b L.n D
  doc : RDisk w L.B L.x L.g1 L.c1 L.g2 L.c2 L.g3 L.n E
  fin : E.fine L.n
  lo : L.B ≤ L.r ∧ L.B ≤ L.b
/-- What holds anything but sectors, texts, bools. -/
def KeepD (w w' : World) : Prop := ∀ g t cs, Holds w g t cs → t ≠ 112 → t ≠ 9 → t ≠ 4 → Holds w' g t cs
theorem types_apart {w : World} {g h : Nat} {t u : TypeId} {cs ds : List Value} (a : Holds w g t cs) (b : Holds w h u ds) (e : t ≠ u) : g ≠ h := by
  rintro rfl
  unfold Holds at a b
  rw [a] at b
  injection b with b
  injection b with _ b
  exact e b
section
variable {w w' : World} {L : DL} {D E D' E' : Dk}
theorem TwoD.size (h : TwoD w L D E) : L.B ≤ w.heap.size := Nat.le_trans h.lo.1 (Nat.le_of_lt h.own.lt.2.1)
theorem TwoD.on (h : TwoD w L D E) (hb : Below w.heap.size w w') : TwoD w' L D E := ⟨h.own.on hb, h.doc.on hb, h.fin, h.lo⟩
theorem TwoD.mine (h : TwoD w L D E) (hT : Turns w w' L.r (some L.b)) (hA : DiskAt w' L.d L.r L.b L.n D') : TwoD w' L D' E ∧ Below L.B w w' ∧ KeepD w w' := by
  refine ⟨⟨hA, h.doc.kept fun k hk => ?_, h.fin, h.lo⟩, hT.below h.lo.1 (fun k e => by have := Option.some.inj e; have := h.lo.2; omega) h.size, fun g t cs hg h1 _ _ => hT.holds hg (types_apart hg h.own.row h1) (fun e => map_apart hg h.own.map (Option.some.inj e))⟩
  have r1 := row_holds h.doc.now h.own.row (by decide)
  have r2 := row_holds h.doc.thn h.own.row (by decide)
  have rx := types_apart h.own.row h.doc.own (by decide)
  have r3 := types_apart h.own.row h.doc.fl_ (by decide)
  have hm : ∀ g, (∃ cs t fr, w.heap[g]? = some (.cells cs t fr)) → some g ≠ some L.b := fun g ⟨cs, t, fr, hg⟩ e => by
    obtain ⟨es, clock, hb, _⟩ := h.own.map
    rw [Option.some.inj e, hb] at hg
    cases hg
  have hk1 : k < w.heap.size := by have := h.doc.lt; omega
  refine hT.block k hk1 ?_ (hm k ?_)
  · rcases hk with rfl | rfl | rfl | rfl
    · exact fun e => rx e.symm
    · exact fun e => r1 e.symm
    · exact fun e => r2 e.symm
    · exact fun e => r3 e.symm
  · have hrow : ∀ {q c : Nat} {ys : List Value}, w.ownsRow L.B 9 1 (.slice (some ⟨q, 0, none⟩) L.n c) L.n ys → ∃ cs t fr, w.heap[q]? = some (.cells cs t fr) := fun {q c ys} hr => by
      rcases hr.2 with ⟨hv, _⟩ | ⟨g, cap, cur, hv, _, hg, _⟩
      · cases hv
      · injection hv with h1
        injection h1 with h1
        injection h1 with h1
        exact ⟨_, _, _, by rw [h1]; exact hg⟩
    rcases hk with rfl | rfl | rfl | rfl
    · exact ⟨_, _, _, h.doc.own⟩
    · exact hrow h.doc.now
    · exact hrow h.doc.thn
    · exact ⟨_, _, _, h.doc.fl_⟩
theorem TwoD.docs (h : TwoD w L D E) (hT : TurnS (RS L.g1 L.g2 L.g3) w w') (hA : RDisk w' L.B L.x L.g1 L.c1 L.g2 L.c2 L.g3 L.n E') (hf : E'.fine L.n) : TwoD w' L D E' ∧ Below L.B w w' ∧ KeepD w w' := by
  have hne : ∀ {g : Nat} {t : TypeId} {cs : List Value}, Holds w g t cs → t ≠ 9 → t ≠ 4 → ¬ RS L.g1 L.g2 L.g3 g := fun {g t cs} hg h1 h2 hs => by
    rcases hs with rfl | rfl | rfl
    · exact row_holds h.doc.now hg h1 rfl
    · exact row_holds h.doc.thn hg h1 rfl
    · exact types_apart hg h.doc.fl_ h2 rfl
  refine ⟨⟨⟨hT.holds h.own.own (hne h.own.own (by decide) (by decide)), hT.holds h.own.row (hne h.own.row (by decide) (by decide)), h.own.map.block (hT.block _ h.own.map.lt fun hs => ?_), h.own.fine, h.own.most, h.own.dr⟩, hA, hf, h.lo⟩, hT.below (fun k hs => ?_) h.size, fun g t cs hg _ h1 h2 => hT.holds hg (hne hg h1 h2)⟩
  · obtain ⟨es, clock, hb, _⟩ := h.own.map
    have hrow : ∀ {q c : Nat} {ys : List Value}, w.ownsRow L.B 9 1 (.slice (some ⟨q, 0, none⟩) L.n c) L.n ys → L.b ≠ q := fun {q c ys} hr e => by
      rcases hr.2 with ⟨hv, _⟩ | ⟨g, cap, cur, hv, _, hg, _⟩
      · cases hv
      · injection hv with h1
        injection h1 with h1
        injection h1 with h1
        rw [← h1, ← e, hb] at hg
        cases hg
    rcases hs with e | e | e
    · exact hrow h.doc.now e
    · exact hrow h.doc.thn e
    · exact map_apart h.doc.fl_ h.own.map e.symm
  · have := h.doc.nB
    rcases hs with rfl | rfl | rfl <;> omega

/-- What a Write answers, and what is held then. -/
def wrAns (n : Nat) (D : Dk) (at_ : Int) (s : ByteArray) : Int × Dk := if 0 ≤ at_ ∧ at_ < (n : Int) ∧ s.size = 64 then (0, D.write at_.toNat s) else (700, D)
theorem tdWrite {at_ : Int} {s : ByteArray} {c : Int} (e : wrAns L.n D at_ s = (c, D')) (h : TwoD w L D E) :
    Calls Tryz.prog 20 #[.pointer (some ⟨L.d, 0, none⟩), .int .i64 at_, .string s] w fun e w' => e = .returned (.int .i64 c) ∧ TwoD w' L D' E ∧ Below L.B w w' ∧ KeepD w w' := by
  unfold wrAns at e
  by_cases hc : 0 ≤ at_ ∧ at_ < (L.n : Int) ∧ s.size = 64
  · rw [if_pos hc] at e
    injection e with e1 e2
    subst e1
    obtain ⟨k, rfl⟩ : ∃ k : Nat, at_ = (k : Int) := ⟨at_.toNat, by omega⟩
    rw [Int.toNat_natCast] at e2
    subst e2
    exact (dkWrite_yes k s hc.2.2 _ _ _ _ D (by omega) w h.own).mono fun _ _ ⟨he, hA, hT⟩ => ⟨he, h.mine hT hA⟩
  · rw [if_neg hc] at e
    injection e with e1 e2
    subst e1 e2
    by_cases h1 : 0 ≤ at_ ∧ at_ < (L.n : Int)
    · obtain ⟨k, rfl⟩ : ∃ k : Nat, at_ = (k : Int) := ⟨at_.toNat, by omega⟩
      exact (dkWrite_not k s (fun e => hc ⟨h1.1, h1.2, e⟩) _ _ _ _ D (by omega) w h.own).mono fun _ _ ⟨he, hw⟩ => ⟨he, by rw [← hw]; exact ⟨h, Below.refl _ _, fun _ _ _ hg _ _ _ => hg⟩⟩
    · exact (dkWrite_no at_ s _ _ _ _ D h1 w h.own).mono fun _ _ ⟨he, hw⟩ => ⟨he, by rw [← hw]; exact ⟨h, Below.refl _ _, fun _ _ _ hg _ _ _ => hg⟩⟩
theorem tdWriteR {at_ : Int} {s : ByteArray} {c : Int} (e : wrAns L.n E at_ s = (c, E')) (h : TwoD w L D E) :
    Calls Tryz.prog 21 #[.pointer (some ⟨L.x, 0, none⟩), .int .i64 at_, .string s] w fun e w' => e = .returned (.int .i64 c) ∧ TwoD w' L D E' ∧ Below L.B w w' ∧ KeepD w w' := by
  unfold wrAns at e
  by_cases hc : 0 ≤ at_ ∧ at_ < (L.n : Int) ∧ s.size = 64
  · rw [if_pos hc] at e
    injection e with e1 e2
    subst e1
    obtain ⟨k, rfl⟩ : ∃ k : Nat, at_ = (k : Int) := ⟨at_.toNat, by omega⟩
    rw [Int.toNat_natCast] at e2
    have hk : k < L.n := by omega
    refine (rdWrite_yes k s hk hc.2.2 w h.doc).mono fun _ _ ⟨he, hA, hT⟩ => ⟨he, h.docs hT ?_ (by rw [← e2]; exact h.fin.write hk hc.2.2)⟩
    subst e2
    show RDiskAt _ _ _ _ _ _ _ _ _ (E.xs.set k s) (thnD L.n (E.write k s)) (flD L.n (E.write k s))
    rw [thnD_write, flD_write s hk]
    exact hA
  · rw [if_neg hc] at e
    injection e with e1 e2
    subst e1 e2
    exact (rdWrite_no at_ s hc w h.doc).mono fun _ _ ⟨he, hw⟩ => ⟨he, by rw [← hw]; exact ⟨h, Below.refl _ _, fun _ _ _ hg _ _ _ => hg⟩⟩
/-- What a Read answers. -/
def rdAns (n : Nat) (D : Dk) (at_ : Int) : ByteArray × Int := if 0 ≤ at_ ∧ at_ < (n : Int) then (D.xs.getD at_.toNat ⟨#[]⟩, 0) else (⟨#[]⟩, 700)
theorem tdRead {at_ : Int} {s : ByteArray} {c : Int} (e : rdAns L.n D at_ = (s, c)) (h : TwoD w L D E) :
    Calls Tryz.prog 26 #[.pointer (some ⟨L.d, 0, none⟩), .int .i64 at_] w fun e w' => e = .returned (.tuple #[.string s, .int .i64 c]) ∧ w = w' := by
  unfold rdAns at e
  by_cases hc : 0 ≤ at_ ∧ at_ < (L.n : Int)
  · rw [if_pos hc] at e
    injection e with e1 e2
    obtain ⟨k, rfl⟩ : ∃ k : Nat, at_ = (k : Int) := ⟨at_.toNat, by omega⟩
    rw [Int.toNat_natCast] at e1
    subst e1 e2
    exact dkRead_yes k _ _ _ _ D (by omega) w h.own
  · rw [if_neg hc] at e
    injection e with e1 e2
    subst e1 e2
    exact dkRead_no at_ _ _ _ _ D hc w h.own
theorem tdReadR {at_ : Int} {s : ByteArray} {c : Int} (e : rdAns L.n E at_ = (s, c)) (h : TwoD w L D E) :
    Calls Tryz.prog 27 #[.pointer (some ⟨L.x, 0, none⟩), .int .i64 at_] w fun e w' => e = .returned (.tuple #[.string s, .int .i64 c]) ∧ w = w' := by
  unfold rdAns at e
  by_cases hc : 0 ≤ at_ ∧ at_ < (L.n : Int)
  · rw [if_pos hc] at e
    injection e with e1 e2
    obtain ⟨k, rfl⟩ : ∃ k : Nat, at_ = (k : Int) := ⟨at_.toNat, by omega⟩
    rw [Int.toNat_natCast] at e1
    subst e1 e2
    exact rdRead_yes k _ (xs_at h.fin (by omega)) w h.doc
  · rw [if_neg hc] at e
    injection e with e1 e2
    subst e1 e2
    exact rdRead_no at_ hc w h.doc
theorem tdSync (h : TwoD w L D E) : Calls Tryz.prog 53 #[.pointer (some ⟨L.d, 0, none⟩)] w fun e w' => e = .returned (.int .i64 0) ∧ TwoD w' L D.sync E ∧ Below L.B w w' ∧ KeepD w w' :=
  (dkSync_any _ _ _ _ D w h.own).mono fun _ _ ⟨he, hA, hT⟩ => ⟨he, h.mine hT hA⟩
theorem tdSyncR (h : TwoD w L D E) : Calls Tryz.prog 17 #[.pointer (some ⟨L.x, 0, none⟩)] w fun e w' => e = .returned (.tuple #[]) ∧ TwoD w' L D E.sync ∧ Below L.B w w' ∧ KeepD w w' :=
  (rdSync_any w h.doc).mono fun _ _ ⟨he, hA, hT⟩ => ⟨he, h.docs hT (by
    show RDiskAt _ _ _ _ _ _ _ _ _ E.xs (thnD L.n E.sync) (flD L.n E.sync)
    rw [thnD_clean h.fin.sync rfl, flD_clean rfl]
    exact hA) h.fin.sync⟩
theorem tdCrash (keep : Int) (h : TwoD w L D E) : Calls Tryz.prog 18 #[.pointer (some ⟨L.d, 0, none⟩), .int .i64 keep] w fun e w' => e = .returned (.int .i64 0) ∧ TwoD w' L (D.crash keep) E ∧ Below L.B w w' ∧ KeepD w w' :=
  (dkCrash_any keep _ _ _ _ D w h.own).mono fun _ _ ⟨he, hA, hT⟩ => ⟨he, h.mine hT hA⟩
theorem tdCrashR (keep : Int) (h : TwoD w L D E) : Calls Tryz.prog 19 #[.pointer (some ⟨L.x, 0, none⟩), .int .i64 keep] w fun e w' => e = .returned (.tuple #[]) ∧ TwoD w' L D (E.crash keep) ∧ Below L.B w w' ∧ KeepD w w' :=
  (rdCrash_any keep h.fin w h.doc).mono fun _ _ ⟨he, hA, hT⟩ => ⟨he, h.docs hT hA (h.fin.crash keep)⟩
end

end Go.Proofs.YtmgaegaibglnhaaGreat
namespace Go.Proofs.YtmgaegaibglnhaaGreat
open Go.RowKit

set_option maxRecDepth 100000 in
theorem dkDirty_any (d r b n : Nat) (D : Dk) (w : World) (hD : DiskAt w d r b n D) : Calls Tryz.prog 24 #[.pointer (some ⟨d, 0, none⟩)] w fun e w' => e = .returned (.int .i64 (D.old.length : Int)) ∧ w = w' := by
  have c1 := hD.own.cK 1 _ rfl
  have hl := fun ty => hD.len ty
  clear hD
  go_enter Tryz.func24, Tryz.ntmps24
  go_wp2
  go_ret
  exact ⟨rfl, rfl⟩

end Go.Proofs.YtmgaegaibglnhaaGreat
