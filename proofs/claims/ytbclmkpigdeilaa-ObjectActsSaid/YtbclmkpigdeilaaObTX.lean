/- Layer 11: the acts that ObjectActs is handed.
   Layer 11: a program's store and the document's, side by side. -/
import Derived.Test.YtbclmkpigdeilaaOpenH
import Derived.Test.YtbclmkpigdeilaaTexts
import Derived.Deep.Slices
import Derived.Test.YtbclmkpigdeilaaObW
namespace Go.Proofs.Ytbclmkpigdeilaa
open Go.RowKit

/-- An act: its kind, a text, a hash. -/
structure ObAct where
  kind : Int
  s : ByteArray
  h : List UInt8
def ObAct.cells (a : ObAct) : List Value := [.int .i64 a.kind, .string a.s] ++ byteCells a.h
def ObAct.fine (a : ObAct) : Prop := a.h.length = 32 ∧ a.s.size ≤ 140737488351232
theorem ObAct.len {a : ObAct} (h : a.fine) : a.cells.length = 34 := by
  unfold ObAct.cells
  rw [List.length_append, byteCells, List.length_map, h.1]
  rfl
theorem ObAct.one (a : ObAct) : ∀ v ∈ a.cells, v.oneCell' = true := by
  intro v hv
  unfold ObAct.cells at hv
  rcases List.mem_append.1 hv with h | h
  · simp at h
    rcases h with rfl | rfl <;> rfl
  · exact byteCells_one _ v h

/-- The slice at A reads as these acts. -/
def ObActs (w : World) (B : Nat) (A : Option Addr) (n : Nat) (xs : List ObAct) : Prop :=
  xs.length = n ∧ (∀ a ∈ xs, a.fine) ∧ (n = 0 ∨ ∃ p : Addr, A = some p ∧ p.block < B ∧ ∀ i (hi : i < xs.length), ∀ j v, xs[i].cells[j]? = some v → w.cell? ((p.add (i * 34)).add j) = some v)
theorem ObActs.below {w w' : World} {B : Nat} {A : Option Addr} {n : Nat} {xs : List ObAct} (h : ObActs w B A n xs) (hb : Below B w w') : ObActs w' B A n xs := by
  obtain ⟨h1, h2, h3⟩ := h
  refine ⟨h1, h2, ?_⟩
  rcases h3 with h3 | ⟨p, hA, hB, hc⟩
  · exact .inl h3
  · exact .inr ⟨p, hA, hB, fun i hi j v hv => (hb.cell (by rw [add_block, add_block]; exact hB)).trans (hc i hi j v hv)⟩
theorem ObActs.get {w : World} {B : Nat} {A : Option Addr} {n : Nat} {xs : List ObAct} (h : ObActs w B A n xs) {i : Nat} (hi : i < n) : ∃ (p : Addr) (x : ObAct), A = some p ∧ x.fine ∧ p.block < B ∧ ∀ j v, x.cells[j]? = some v → w.cell? ((p.add (i * 34)).add j) = some v := by
  obtain ⟨h1, h2, h3 | ⟨p, hA, hB, hc⟩⟩ := h
  · omega
  · exact ⟨p, xs[i]'(by omega), hA, h2 _ (List.getElem_mem ..), hB, hc i (by omega)⟩

theorem list3 {α : Type _} : ∀ {l : List α}, l.length = 3 → ∃ a b c, l = [a, b, c]
  | [a, b, c], _ => ⟨a, b, c, rfl⟩
theorem obact_cells {cs r : List Value} {v0 v1 : Value} (hl : cs.length = 34) (h0 : (cs.drop 0).take 1 = [v0]) (h1 : (cs.drop 1).take 1 = [v1]) (h4 : (cs.drop 2).take 32 = r) : [v0, v1] ++ r = cs := by
  match cs, hl with
  | c0 :: c1 :: rest, hl =>
    have h32 : rest.length = 32 := by simpa using hl
    simp at h0 h1
    have e4 : List.take 32 rest = r := h4
    rw [List.take_of_length_le (by omega)] at e4
    simp [h0, h1, e4]

section
variable {H : Type} {enc : TypeId × Value → H} {w : World} {base : Nat} {spare : Nat → Bool} {held : Bool}
open Go.ChangeShapes Go.WideShapes Go.Deep

theorem open_obact {fuel : Nat} {cs : List Value} {x : DataW H × List MemPlace} (h : DataW.trod enc Try.prog w base spare held fuel 35 cs = some x) (hw : ∀ k ∈ x.1.weights Try.prog 35, k ≤ reachBytes) : ∃ a : ObAct, a.fine ∧ a.cells = cs := by
  have hC : Try.prog.cellsOf 35 = 34 := by kernel_rfl
  have hI : Try.prog.cellsOf 3 = 1 := by kernel_rfl
  have hS : Try.prog.cellsOf 9 = 1 := by kernel_rfl
  have hH : Try.prog.cellsOf 33 = 32 := by kernel_rfl
  obtain ⟨ys, n, _, hx, hl, hlen, hf⟩ := DataW.trod_struct Try.underlying35 h
  rw [hC] at hl
  have hlen' : ys.length = 3 := hlen
  have g0 := hf 0 _ rfl
  change DataW.trod enc Try.prog w base spare held n 3 ((cs.drop 0).take (Try.prog.cellsOf 3)) = _ at g0
  rw [hI] at g0
  have g1 := hf 1 _ rfl
  change DataW.trod enc Try.prog w base spare held n 9 ((cs.drop 1).take (Try.prog.cellsOf 9)) = _ at g1
  rw [hS] at g1
  have g2 := hf 2 _ rfl
  change DataW.trod enc Try.prog w base spare held n 33 ((cs.drop 2).take (Try.prog.cellsOf 33)) = _ at g2
  rw [hH] at g2
  obtain ⟨y0, y1, y2, rfl⟩ : ∃ y0 y1 y2, ys = [y0, y1, y2] := list3 hlen'
  obtain ⟨k, h0, _, _⟩ := DataW.trod_int Try.underlying3 g0
  obtain ⟨s, h1, hd, _⟩ := DataW.trod_string Try.underlying9 g1
  obtain ⟨hh, h2, hl2⟩ := open_hash g2
  refine ⟨⟨k, s, hh⟩, ⟨hl2, ?_⟩, ?_⟩
  · have hk := hw s.data.toList.length (by
      rw [hx]
      simp only [DataW.weights, Try.underlying35, List.map_cons]
      have hD : y1.1 = .lit (.string s.data.toList) := (Prod.mk.inj hd).1
      rw [hD]
      refine List.mem_append_right _ (List.mem_append_left _ ?_)
      simp [DataW.weights])
    rw [data_length] at hk
    unfold reachBytes at hk
    simp only
    omega
  · unfold ObAct.cells
    exact obact_cells hl h0 h1 h2

theorem open_obacts {fuel : Nat} {x : DataW H × List MemPlace} {A : Option Addr} {len cap : Nat} (h : DataW.trod enc Try.prog w base spare held fuel 22 [.slice A len cap] = some x) (hlt : ∀ y ∈ x.2, y.block < w.heap.size)
    (hw : ∀ k ∈ x.1.weights Try.prog 22, k ≤ reachBytes) : ∃ xs, ObActs w w.heap.size A len xs ∧ len ≤ maxLen := by
  have hC : Try.prog.cellsOf 35 = 34 := by kernel_rfl
  rcases open_slice Try.underlying22 h with ⟨hcs, _⟩ | ⟨a, l, c, m, n, D, Pl, hcs, hb, hl, hm, hmm, hx, hi⟩
  · simp at hcs
    obtain ⟨rfl, rfl, rfl⟩ := hcs
    exact ⟨[], ⟨rfl, (fun a ha => by cases ha), .inl rfl⟩, Nat.zero_le _⟩
  · simp at hcs
    obtain ⟨rfl, rfl, rfl⟩ := hcs
    have hlm : len ≤ m := by
      rw [hmm]
      split
      · exact hl
      · exact Nat.le_refl _
    have hex : ∀ i, i < len → ∃ b : ObAct, b.fine ∧ ∀ j v, b.cells[j]? = some v → w.cell? ((a.add (i * 34)).add j) = some v := by
      intro i hil
      obtain ⟨cs', hc, ht⟩ := hi i (by omega)
      rw [hC] at hc
      obtain ⟨_, hcl, hat⟩ := World.cells?_some hc
      obtain ⟨b, hbf, hbc⟩ := open_obact ht (fun k hk => hw k (by
        rw [hx]
        simp only [DataW.weights, Try.underlying22]
        exact List.mem_cons_of_mem _ (List.mem_append_left _ (weights_all (d := D i) (List.mem_map.2 ⟨i, List.mem_range.2 hil, rfl⟩) _ hk))))
      refine ⟨b, hbf, fun j v hv => ?_⟩
      rw [hbc] at hv
      have hj : j < 34 := by
        have := (List.getElem?_eq_some_iff.1 hv).1
        omega
      rw [hat j hj, hv]
    let g : Nat → ObAct := fun i => if hil : i < len then Classical.choose (hex i hil) else ⟨0, ByteArray.empty, []⟩
    have hg : ∀ i (hil : i < len), (g i).fine ∧ ∀ j v, (g i).cells[j]? = some v → w.cell? ((a.add (i * 34)).add j) = some v := by
      intro i hil
      have : g i = Classical.choose (hex i hil) := by simp [g, hil]
      rw [this]
      exact Classical.choose_spec (hex i hil)
    refine ⟨(List.range len).map g, ⟨by simp, ?_, ?_⟩, Nat.le_trans hl hm⟩
    · intro b hb
      obtain ⟨i, hi, rfl⟩ := List.mem_map.1 hb
      exact (hg i (List.mem_range.1 hi)).1
    · rcases Nat.eq_zero_or_pos len with h0 | h0
      · exact .inl h0
      · refine .inr ⟨a, rfl, ?_, ?_⟩
        · have := hlt (.cell a.block a.off) (by
            rw [hx, hC]
            exact List.mem_append_left _ (row_head a (m * 34) (by omega)))
          exact this
        · intro i hi j v hv
          have hil : i < len := by simpa using hi
          simp only [List.getElem_map, List.getElem_range] at hv
          exact (hg i hil).2 j v hv
end

end Go.Proofs.Ytbclmkpigdeilaa
namespace Go.Proofs.Ytbclmkpigdeilaa
open Go.RowKit
open Go.Lib (strCells strCells_length strCells_oneCell)
attribute [local irreducible] Sha.compress Sha.blocks Sha.sha Sha.pad

/-- What holds a copy of anything but the two stores. -/
def KeepT (b r : Nat) (w w' : World) : Prop := w.heap.size ≤ w'.heap.size ∧ ∀ g t cs, Holds w g t cs → g ≠ b → g ≠ r → t ≠ 109 → Holds w' g t cs
theorem KeepT.holds {b r : Nat} {w w' : World} (h : KeepT b r w w') {g : Nat} {t : TypeId} {cs : List Value} (hh : Holds w g t cs) {s : Nat} (h1 : g ≠ b ∧ g ≠ r ∧ g ≠ s) (ht : t ≠ 109) : Holds w' g t cs := h.2 g t cs hh h1.1 h1.2.1 ht
theorem KeepT.of_grown {b r : Nat} {w w' : World} (h : w.grownBy w' (some b)) : KeepT b r w w' := ⟨h.size, fun _ _ _ hh h1 _ _ => hb_neb hh h h1⟩
theorem KeepT.of_keep {b r : Nat} {w w' : World} (h : KeepO r w w') : KeepT b r w w' := ⟨h.1, fun _ _ _ hh _ h2 ht => h.holds hh h2 ht⟩

/-- The program's store holds m, the document's n. -/
structure TwoAt (w : World) (B s b r most : Nat) (m n : Obs) : Prop where
  own : StoreAt w s b most m
  doc : RStoreAt w B r most n
  sB : B ≤ s
  bB : B ≤ b
  rB : B ≤ r
  sr : s ≠ r
  br : b ≠ r
theorem TwoAt.size {w : World} {B s b r most : Nat} {m n : Obs} (h : TwoAt w B s b r most m n) : B ≤ w.heap.size := Nat.le_trans h.sB (Nat.le_of_lt h.own.1.lt)
theorem TwoAt.on {w w' : World} {B s b r most : Nat} {m n : Obs} (h : TwoAt w B s b r most m n) (hb : Below w.heap.size w w') : TwoAt w' B s b r most m n := ⟨h.own.on hb, h.doc.on hb, h.sB, h.bB, h.rB, h.sr, h.br⟩
theorem TwoAt.ne {w : World} {B s b r most : Nat} {m n : Obs} (h : TwoAt w B s b r most m n) : w.heap.size ≠ b ∧ w.heap.size ≠ r ∧ w.heap.size ≠ s := by
  obtain ⟨h1, h2, -⟩ := h
  obtain ⟨A, c, h3, -⟩ := h2
  have l1 := h1.1.lt
  have l2 := h1.2.1.lt
  have l3 := h3.lt
  omega
theorem TwoAt.far {w W : World} {B s b r most g o : Nat} {t : TypeId} {cs vs : List Value} {m n : Obs} (h : TwoAt w B s b r most m n) (hg : Holds w g t cs) (ht : t ≠ 109) (h1 : g ≠ b ∧ g ≠ r ∧ g ≠ s) (e : w.setCells g o vs = W) : TwoAt W B s b r most m n :=
  ⟨h.own.far (Ne.symm h1.2.2) (Ne.symm h1.1) e, h.doc.far hg ht (Ne.symm h1.2.1) e, h.sB, h.bB, h.rB, h.sr, h.br⟩
theorem RStoreAt.grown {w w' : World} {B r most b : Nat} {n : Obs} {es : List (Value × Value)} (h : RStoreAt w B r most n) (hM : MapAt w b es) (hg : w.grownBy w' (some b)) (hbr : b ≠ r) : RStoreAt w' B r most n := by
  obtain ⟨A, c, h1, h2, h3⟩ := h
  refine ⟨A, c, hb_neb h1 hg (fun e => hbr e.symm), ?_, h3⟩
  obtain ⟨k1, k2 | ⟨g, cap, cur, hv, hB, hh, rest⟩⟩ := h2
  · exact ⟨k1, .inl k2⟩
  · refine ⟨k1, .inr ⟨g, cap, cur, hv, hB, ?_, rest⟩⟩
    have hlt := (Array.getElem?_eq_some_iff.1 hh).1
    rw [hg.block g hlt (fun e => by
      have e1 : g = b := Option.some.inj e
      obtain ⟨es', clock, hm, _⟩ := hM
      rw [e1, hm] at hh
      cases hh)]
    exact hh
theorem TwoAt.mine {w w' : World} {B s b r most : Nat} {m m' n : Obs} (h : TwoAt w B s b r most m n) (hg : w.grownBy w' (some b)) (hS : StoreAt w' s b most m') : TwoAt w' B s b r most m' n ∧ Below B w w' ∧ KeepT b r w w' :=
  ⟨⟨hS, h.doc.grown h.own.2.1 hg h.br, h.sB, h.bB, h.rB, h.sr, h.br⟩, (Below.refl B w).grown hg h.size (fun i e => by have := Option.some.inj e; have := h.bB; omega), KeepT.of_grown hg⟩
theorem TwoAt.docs {w w' : World} {B s b r most : Nat} {m n n' : Obs} (h : TwoAt w B s b r most m n) (hR : RStoreAt w' B r most n') (hb : Below B w w') (hk : KeepO r w w') : TwoAt w' B s b r most m n' ∧ Below B w w' ∧ KeepT b r w w' :=
  ⟨⟨hk.store h.own h.sr h.br, hR, h.sB, h.bB, h.rB, h.sr, h.br⟩, hb, KeepT.of_keep hk⟩

section
variable {B s b r most : Nat} {m n : Obs} {w : World}
theorem tPut (d : ByteArray) (h : TwoAt w B s b r most m n) :
    Calls Try.prog 19 #[.pointer (some ⟨s, 0, none⟩), .string d] w fun e w' => e = .returned (.tuple #[.agg (byteCells (putAns most m d).1).toArray, .int .i64 (putAns most m d).2.1]) ∧ TwoAt w' B s b r most (putAns most m d).2.2 n ∧ Below B w w' ∧ KeepT b r w w' :=
  (obPut_any s b most m d w h.own).mono fun _ _ ⟨he, hS, hg⟩ => ⟨he, h.mine hg hS⟩
theorem tAdd (k : List UInt8) (hk : k.length = 32) (d : ByteArray) (h : TwoAt w B s b r most m n) :
    Calls Try.prog 22 #[.pointer (some ⟨s, 0, none⟩), .agg (byteCells k).toArray, .string d] w fun e w' => e = .returned (.int .i64 (addAns most m k d).1) ∧ TwoAt w' B s b r most (addAns most m k d).2 n ∧ Below B w w' ∧ KeepT b r w w' :=
  (obAdd_any s b most m k hk d w h.own).mono fun _ _ ⟨he, hS, hg⟩ => ⟨he, h.mine hg hS⟩
theorem tPutR (d : ByteArray) (h : TwoAt w B s b r most m n) :
    Calls Try.prog 20 #[.pointer (some ⟨r, 0, none⟩), .string d] w fun e w' => e = .returned (.tuple #[.agg (byteCells (putAns most n d).1).toArray, .int .i64 (putAns most n d).2.1]) ∧ TwoAt w' B s b r most m (putAns most n d).2.2 ∧ Below B w w' ∧ KeepT b r w w' :=
  (rPut_any B r most h.rB n d w h.size h.doc).mono fun _ _ ⟨he, hR, hb, hk⟩ => ⟨he, h.docs hR hb hk⟩
theorem tAddR (k : List UInt8) (hk : k.length = 32) (d : ByteArray) (h : TwoAt w B s b r most m n) :
    Calls Try.prog 23 #[.pointer (some ⟨r, 0, none⟩), .agg (byteCells k).toArray, .string d] w fun e w' => e = .returned (.int .i64 (addAns most n k d).1) ∧ TwoAt w' B s b r most m (addAns most n k d).2 ∧ Below B w w' ∧ KeepT b r w w' :=
  (rAdd_any B r most h.rB n k hk d w h.size h.doc).mono fun _ _ ⟨he, hR, hb, hk⟩ => ⟨he, h.docs hR hb hk⟩
theorem tPutE {d : ByteArray} {pa : List UInt8} {pc : Int} {pm : Obs} (e : putAns most m d = (pa, pc, pm)) (h : TwoAt w B s b r most m n) :
    Calls Try.prog 19 #[.pointer (some ⟨s, 0, none⟩), .string d] w fun e w' => e = .returned (.tuple #[.agg (byteCells pa).toArray, .int .i64 pc]) ∧ TwoAt w' B s b r most pm n ∧ Below B w w' ∧ KeepT b r w w' := by
  have := tPut d h
  rw [e] at this
  exact this
theorem tAddE {k : List UInt8} (hk : k.length = 32) {d : ByteArray} {ac : Int} {am : Obs} (e : addAns most m k d = (ac, am)) (h : TwoAt w B s b r most m n) :
    Calls Try.prog 22 #[.pointer (some ⟨s, 0, none⟩), .agg (byteCells k).toArray, .string d] w fun e w' => e = .returned (.int .i64 ac) ∧ TwoAt w' B s b r most am n ∧ Below B w w' ∧ KeepT b r w w' := by
  have := tAdd k hk d h
  rw [e] at this
  exact this
theorem tPutRE {d : ByteArray} {pa : List UInt8} {pc : Int} {pm : Obs} (e : putAns most n d = (pa, pc, pm)) (h : TwoAt w B s b r most m n) :
    Calls Try.prog 20 #[.pointer (some ⟨r, 0, none⟩), .string d] w fun e w' => e = .returned (.tuple #[.agg (byteCells pa).toArray, .int .i64 pc]) ∧ TwoAt w' B s b r most m pm ∧ Below B w w' ∧ KeepT b r w w' := by
  have := tPutR d h
  rw [e] at this
  exact this
theorem tAddRE {k : List UInt8} (hk : k.length = 32) {d : ByteArray} {ac : Int} {am : Obs} (e : addAns most n k d = (ac, am)) (h : TwoAt w B s b r most m n) :
    Calls Try.prog 23 #[.pointer (some ⟨r, 0, none⟩), .agg (byteCells k).toArray, .string d] w fun e w' => e = .returned (.int .i64 ac) ∧ TwoAt w' B s b r most m am ∧ Below B w w' ∧ KeepT b r w w' := by
  have := tAddR k hk d h
  rw [e] at this
  exact this
theorem rObjE {d : ByteArray} {l : List UInt8} (e : objAns d = l) (hd : d.size ≤ 140737488351232) (w : World) : Calls Try.prog 21 #[.string d] w fun e w' => e = .returned (.agg (byteCells l).toArray) ∧ Below w.heap.size w w' := by
  have := rObject_any d hd w
  rw [e] at this
  exact this
theorem tGetE {k : List UInt8} (hk : k.length = 32) {x : ByteArray} {c : Int} (e1 : (obGet m k).getD ⟨#[]⟩ = x) (e2 : (if (obGet m k).isSome then 0 else 1101) = c) (h : TwoAt w B s b r most m n) :
    Calls Try.prog 24 #[.pointer (some ⟨s, 0, none⟩), .agg (byteCells k).toArray] w fun e w' => e = .returned (.tuple #[.string x, .int .i64 c]) ∧ Below w.heap.size w w' := by
  have := obGet_any s b most m k hk w h.own
  rw [e1, e2] at this
  exact this
theorem tGetRE {k : List UInt8} (hk : k.length = 32) {x : ByteArray} {c : Int} (e1 : (obGet n k).getD ⟨#[]⟩ = x) (e2 : (if (obGet n k).isSome then 0 else 1101) = c) (h : TwoAt w B s b r most m n) :
    Calls Try.prog 25 #[.pointer (some ⟨r, 0, none⟩), .agg (byteCells k).toArray] w fun e w' => e = .returned (.tuple #[.string x, .int .i64 c]) ∧ Below w.heap.size w w' := by
  have := rGet_any B r most n k hk w h.doc
  rw [e1, e2] at this
  exact this
end
/-- Two new stores. -/
theorem TwoAt.new {w W1 W2 : World} {most : Nat} (h1 : StoreAt W1 (w.heap.size + 1) w.heap.size most []) (hb1 : Below w.heap.size w W1) (h2 : RStoreAt W2 w.heap.size W1.heap.size most []) (hb2 : Below W1.heap.size W1 W2) :
    TwoAt W2 w.heap.size (w.heap.size + 1) w.heap.size W1.heap.size most [] [] :=
  ⟨h1.on hb2, h2, Nat.le_succ _, Nat.le_refl _, hb1.size, by have := h1.1.lt; omega, by have := h1.1.lt; omega⟩

def zAc : List Value := ObAct.cells ⟨0, ⟨#[]⟩, List.replicate 32 0⟩
structure AcC (cs : List Value) : Prop where
  len : cs.length = 34
  one : cs.toArray.all (·.oneCell') = true
  size : (Try.prog.info? 35).map (·.size) = some cs.toArray.size
  size' : (Try.prog.info? 35).map (·.size) = some cs.length
theorem ac_cells {a : ObAct} (h : a.fine) : AcC a.cells := by
  have hinfo : (Try.prog.info? 35).map (·.size) = some 34 := by kernel_rfl
  have hl := ObAct.len h
  exact ⟨hl, all_oneCell_toArray a.one, by rw [List.size_toArray, hl]; exact hinfo, by rw [hl]; exact hinfo⟩
theorem AcC.there {cs : List Value} (h : AcC cs) (W : World) : (W.alloc (.cells zAc.toArray 35)).there W.heap.size 0 cs.toArray.size := (Holds.new W 35 zAc.toArray).there 0 _ (by rw [List.size_toArray, h.len]; exact Nat.le_refl 34)
theorem AcC.new {cs : List Value} (hc : AcC cs) {W W7 : World} (h : (W.alloc (.cells zAc.toArray 35)).setCells W.heap.size 0 cs = W7) : Holds W7 W.heap.size 35 cs ∧ Below W.heap.size W W7 := by
  have hH := Holds.new W 35 zAc.toArray
  have hb : Below W.heap.size W (W.alloc (.cells zAc.toArray 35)) := (Below.refl _ _).alloc (Nat.le_refl _) _
  have hl : cs.length = zAc.toArray.toList.length := by rw [hc.len]; rfl
  refine ⟨?_, below_put hb (Nat.le_refl _) h⟩
  have h1 := hH.put 0 cs (by rw [hl]; exact Nat.le_of_eq (Nat.zero_add _))
  rw [h, put_all _ _ hl] at h1
  exact h1
/-- The hash within an act. -/
theorem Holds.ach {W : World} {g : Nat} {a : ObAct} (h : Holds W g 35 a.cells) : ∀ j v, (byteCells a.h)[j]? = some v → W.cell? ((⟨g, 2, none⟩ : Addr).add j) = some v := fun j v hv => by
  rw [show (⟨g, 2, none⟩ : Addr).add j = ⟨g, 2 + j, none⟩ from by unfold Addr.add; split <;> simp_all]
  exact h.cO (2 + j) v (by unfold ObAct.cells; rw [List.getElem?_append_right (by show 2 ≤ 2 + j; omega)]; rw [show 2 + j - [Value.int .i64 a.kind, .string a.s].length = j from by show 2 + j - 2 = j; omega]; exact hv)

end Go.Proofs.Ytbclmkpigdeilaa
