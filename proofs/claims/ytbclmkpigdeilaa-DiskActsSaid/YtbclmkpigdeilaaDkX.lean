/- Layer 7: the acts that DiskActs is handed.
   Layer 7: a program's disk and the document's, side by side. -/
import Derived.Test.YtbclmkpigdeilaaDkN
import Derived.Deep.Slices
namespace Go.Proofs.Ytbclmkpigdeilaa
open Go.RowKit
open Go.Lib (strCells strCells_length strCells_oneCell)

/-- An act: its kind, a place, a text, what a crash keeps. -/
structure DkAct where
  kind : Int
  at_ : Int
  s : ByteArray
  keep : Int
def DkAct.cells (a : DkAct) : List Value := [.int .i64 a.kind, .int .i64 a.at_, .string a.s, .int .i64 a.keep]
/-- The slice at A reads as these acts. -/
def DkActs (w : World) (B : Nat) (A : Option Addr) (n : Nat) (xs : List DkAct) : Prop :=
  xs.length = n ∧ (∀ a ∈ xs, a.s.size ≤ 140737488351232) ∧ (n = 0 ∨ ∃ p : Addr, A = some p ∧ p.block < B ∧ ∀ i (hi : i < xs.length), ∀ j v, xs[i].cells[j]? = some v → w.cell? ((p.add (i * 4)).add j) = some v)
theorem DkActs.below {w w' : World} {B : Nat} {A : Option Addr} {n : Nat} {xs : List DkAct} (h : DkActs w B A n xs) (hb : Below B w w') : DkActs w' B A n xs := by
  obtain ⟨h1, h2, h3⟩ := h
  refine ⟨h1, h2, ?_⟩
  rcases h3 with h3 | ⟨p, hA, hB, hc⟩
  · exact .inl h3
  · exact .inr ⟨p, hA, hB, fun i hi j v hv => (hb.cell (by rw [add_block, add_block]; exact hB)).trans (hc i hi j v hv)⟩
theorem DkActs.get {w : World} {B : Nat} {A : Option Addr} {n : Nat} {xs : List DkAct} (h : DkActs w B A n xs) {i : Nat} (hi : i < n) : ∃ (p : Addr) (x : DkAct), A = some p ∧ x.s.size ≤ 140737488351232 ∧ p.block < B ∧ ∀ j v, x.cells[j]? = some v → w.cell? ((p.add (i * 4)).add j) = some v := by
  obtain ⟨h1, h2, h3 | ⟨p, hA, hB, hc⟩⟩ := h
  · omega
  · exact ⟨p, xs[i]'(by omega), hA, h2 _ (List.getElem_mem ..), hB, hc i (by omega)⟩
theorem list4 {α : Type _} : ∀ {l : List α}, l.length = 4 → ∃ a b c d, l = [a, b, c, d]
  | [a, b, c, d], _ => ⟨a, b, c, d, rfl⟩
theorem dkact_cells {cs : List Value} {v0 v1 v2 v3 : Value} (hl : cs.length = 4) (h0 : (cs.drop 0).take 1 = [v0]) (h1 : (cs.drop 1).take 1 = [v1]) (h2 : (cs.drop 2).take 1 = [v2]) (h3 : (cs.drop 3).take 1 = [v3]) : [v0, v1, v2, v3] = cs := by
  obtain ⟨a, b, c, d, rfl⟩ := list4 hl
  simp at h0 h1 h2 h3
  simp [h0, h1, h2, h3]

section
variable {H : Type} {enc : TypeId × Value → H} {w : World} {base : Nat} {spare : Nat → Bool} {held : Bool}
open Go.ChangeShapes Go.WideShapes Go.Deep

theorem open_dkact {fuel : Nat} {cs : List Value} {x : DataW H × List MemPlace} (h : DataW.trod enc Try.prog w base spare held fuel 63 cs = some x) (hw : ∀ k ∈ x.1.weights Try.prog 63, k ≤ reachBytes) : ∃ a : DkAct, a.s.size ≤ 140737488351232 ∧ a.cells = cs := by
  have hC : Try.prog.cellsOf 63 = 4 := by kernel_rfl
  have hI : Try.prog.cellsOf 3 = 1 := by kernel_rfl
  have hS : Try.prog.cellsOf 9 = 1 := by kernel_rfl
  obtain ⟨ys, n, _, hx, hl, hlen, hf⟩ := DataW.trod_struct Try.underlying63 h
  rw [hC] at hl
  have hlen' : ys.length = 4 := hlen
  have g0 := hf 0 _ rfl
  change DataW.trod enc Try.prog w base spare held n 3 ((cs.drop 0).take (Try.prog.cellsOf 3)) = _ at g0
  rw [hI] at g0
  have g1 := hf 1 _ rfl
  change DataW.trod enc Try.prog w base spare held n 3 ((cs.drop 1).take (Try.prog.cellsOf 3)) = _ at g1
  rw [hI] at g1
  have g2 := hf 2 _ rfl
  change DataW.trod enc Try.prog w base spare held n 9 ((cs.drop 2).take (Try.prog.cellsOf 9)) = _ at g2
  rw [hS] at g2
  have g3 := hf 3 _ rfl
  change DataW.trod enc Try.prog w base spare held n 3 ((cs.drop 3).take (Try.prog.cellsOf 3)) = _ at g3
  rw [hI] at g3
  obtain ⟨y0, y1, y2, y3, rfl⟩ := list4 hlen'
  obtain ⟨k, h0, _, _⟩ := DataW.trod_int Try.underlying3 g0
  obtain ⟨p, h1, _, _⟩ := DataW.trod_int Try.underlying3 g1
  obtain ⟨s, h2, hd, _⟩ := DataW.trod_string Try.underlying9 g2
  obtain ⟨q, h3, _, _⟩ := DataW.trod_int Try.underlying3 g3
  refine ⟨⟨k, p, s, q⟩, ?_, dkact_cells hl h0 h1 h2 h3⟩
  have hk := hw s.data.toList.length (by
    rw [hx]
    simp only [DataW.weights, Try.underlying63, List.map_cons]
    have hD : y2.1 = .lit (.string s.data.toList) := (Prod.mk.inj hd).1
    rw [hD]
    refine List.mem_append_right _ (List.mem_append_right _ (List.mem_append_left _ ?_))
    simp [DataW.weights])
  rw [data_length] at hk
  unfold reachBytes at hk
  simp only
  omega
theorem open_dkacts {fuel : Nat} {x : DataW H × List MemPlace} {A : Option Addr} {len cap : Nat} (h : DataW.trod enc Try.prog w base spare held fuel 55 [.slice A len cap] = some x) (hlt : ∀ y ∈ x.2, y.block < w.heap.size)
    (hw : ∀ k ∈ x.1.weights Try.prog 55, k ≤ reachBytes) : ∃ xs, DkActs w w.heap.size A len xs ∧ len ≤ maxLen := by
  have hC : Try.prog.cellsOf 63 = 4 := by kernel_rfl
  rcases open_slice Try.underlying55 h with ⟨hcs, _⟩ | ⟨a, l, c, m, n, D, Pl, hcs, hb, hl, hm, hmm, hx, hi⟩
  · simp at hcs
    obtain ⟨rfl, rfl, rfl⟩ := hcs
    exact ⟨[], ⟨rfl, (fun a ha => by cases ha), .inl rfl⟩, Nat.zero_le _⟩
  · simp at hcs
    obtain ⟨rfl, rfl, rfl⟩ := hcs
    have hlm : len ≤ m := by
      rw [hmm]
      split
      · exact hl
      · exact Nat.le_refl _
    have hex : ∀ i, i < len → ∃ b : DkAct, b.s.size ≤ 140737488351232 ∧ ∀ j v, b.cells[j]? = some v → w.cell? ((a.add (i * 4)).add j) = some v := by
      intro i hil
      obtain ⟨cs', hc, ht⟩ := hi i (by omega)
      rw [hC] at hc
      obtain ⟨_, hcl, hat⟩ := World.cells?_some hc
      obtain ⟨b, hbf, hbc⟩ := open_dkact ht (fun k hk => hw k (by
        rw [hx]
        simp only [DataW.weights, Try.underlying55]
        exact List.mem_cons_of_mem _ (List.mem_append_left _ (weights_all (d := D i) (List.mem_map.2 ⟨i, List.mem_range.2 hil, rfl⟩) _ hk))))
      refine ⟨b, hbf, fun j v hv => ?_⟩
      rw [hbc] at hv
      have hj : j < 4 := by
        have := (List.getElem?_eq_some_iff.1 hv).1
        omega
      rw [hat j hj, hv]
    let g : Nat → DkAct := fun i => if hil : i < len then Classical.choose (hex i hil) else ⟨0, 0, ByteArray.empty, 0⟩
    have hg : ∀ i (hil : i < len), (g i).s.size ≤ 140737488351232 ∧ ∀ j v, (g i).cells[j]? = some v → w.cell? ((a.add (i * 4)).add j) = some v := by
      intro i hil
      have : g i = Classical.choose (hex i hil) := by simp [g, hil]
      rw [this]
      exact Classical.choose_spec (hex i hil)
    refine ⟨(List.range len).map g, ⟨by simp, ?_, ?_⟩, Nat.le_trans hl hm⟩
    · intro b hb
      obtain ⟨i, hi, rfl⟩ := List.mem_map.1 hb
      exact (hg i (List.mem_range.1 hi)).1
    · rcases Nat.eq_zero_or_pos len with h0 | h0
      · exact .inl h0
      · refine .inr ⟨a, rfl, ?_, ?_⟩
        · have := hlt (.cell a.block a.off) (by
            rw [hx, hC]
            exact List.mem_append_left _ (row_head a (m * 4) (by omega)))
          exact this
        · intro i hi j v hv
          have hil : i < len := by simpa using hi
          simp only [List.getElem_map, List.getElem_range] at hv
          exact (hg i hil).2 j v hv
end

/-- Where both disks lie. -/
structure DL where
  B : Nat
  d : Nat
  r : Nat
  b : Nat
  x : Nat
  g1 : Nat
  c1 : Nat
  g2 : Nat
  c2 : Nat
  g3 : Nat
  n : Nat
/-- The program's disk holds D, the document's E. -/
structure TwoD (w : World) (L : DL) (D E : Dk) : Prop where
  own : DiskAt w L.d L.r L.b L.n D
  doc : RDisk w L.B L.x L.g1 L.c1 L.g2 L.c2 L.g3 L.n E
  fin : E.fine L.n
  lo : L.B ≤ L.r ∧ L.B ≤ L.b
/-- What holds anything but sectors, texts, bools. -/
def KeepD (w w' : World) : Prop := ∀ g t cs, Holds w g t cs → t ≠ 121 → t ≠ 9 → t ≠ 4 → Holds w' g t cs
theorem types_apart {w : World} {g h : Nat} {t u : TypeId} {cs ds : List Value} (a : Holds w g t cs) (b : Holds w h u ds) (e : t ≠ u) : g ≠ h := by
  rintro rfl
  unfold Holds at a b
  rw [a] at b
  injection b with b
  injection b with _ b
  exact e b
section
variable {w w' : World} {L : DL} {D E D' E' : Dk}
theorem TwoD.size (h : TwoD w L D E) : L.B ≤ w.heap.size := Nat.le_trans h.lo.1 (Nat.le_of_lt h.own.lt.2.1)
theorem TwoD.on (h : TwoD w L D E) (hb : Below w.heap.size w w') : TwoD w' L D E := ⟨h.own.on hb, h.doc.on hb, h.fin, h.lo⟩
theorem TwoD.mine (h : TwoD w L D E) (hT : Turns w w' L.r (some L.b)) (hA : DiskAt w' L.d L.r L.b L.n D') : TwoD w' L D' E ∧ Below L.B w w' ∧ KeepD w w' := by
  refine ⟨⟨hA, h.doc.kept fun k hk => ?_, h.fin, h.lo⟩, hT.below h.lo.1 (fun k e => by have := Option.some.inj e; have := h.lo.2; omega) h.size, fun g t cs hg h1 _ _ => hT.holds hg (types_apart hg h.own.row h1) (fun e => map_apart hg h.own.map (Option.some.inj e))⟩
  have r1 := row_holds h.doc.now h.own.row (by decide)
  have r2 := row_holds h.doc.thn h.own.row (by decide)
  have rx := types_apart h.own.row h.doc.own (by decide)
  have r3 := types_apart h.own.row h.doc.fl_ (by decide)
  have hm : ∀ g, (∃ cs t fr, w.heap[g]? = some (.cells cs t fr)) → some g ≠ some L.b := fun g ⟨cs, t, fr, hg⟩ e => by
    obtain ⟨es, clock, hb, _⟩ := h.own.map
    rw [Option.some.inj e, hb] at hg
    cases hg
  have hk1 : k < w.heap.size := by have := h.doc.lt; omega
  refine hT.block k hk1 ?_ (hm k ?_)
  · rcases hk with rfl | rfl | rfl | rfl
    · exact fun e => rx e.symm
    · exact fun e => r1 e.symm
    · exact fun e => r2 e.symm
    · exact fun e => r3 e.symm
  · have hrow : ∀ {q c : Nat} {ys : List Value}, w.ownsRow L.B 9 1 (.slice (some ⟨q, 0, none⟩) L.n c) L.n ys → ∃ cs t fr, w.heap[q]? = some (.cells cs t fr) := fun {q c ys} hr => by
      rcases hr.2 with ⟨hv, _⟩ | ⟨g, cap, cur, hv, _, hg, _⟩
      · cases hv
      · injection hv with h1
        injection h1 with h1
        injection h1 with h1
        exact ⟨_, _, _, by rw [h1]; exact hg⟩
    rcases hk with rfl | rfl | rfl | rfl
    · exact ⟨_, _, _, h.doc.own⟩
    · exact hrow h.doc.now
    · exact hrow h.doc.thn
    · exact ⟨_, _, _, h.doc.fl_⟩
theorem TwoD.docs (h : TwoD w L D E) (hT : TurnS (RS L.g1 L.g2 L.g3) w w') (hA : RDisk w' L.B L.x L.g1 L.c1 L.g2 L.c2 L.g3 L.n E') (hf : E'.fine L.n) : TwoD w' L D E' ∧ Below L.B w w' ∧ KeepD w w' := by
  have hne : ∀ {g : Nat} {t : TypeId} {cs : List Value}, Holds w g t cs → t ≠ 9 → t ≠ 4 → ¬ RS L.g1 L.g2 L.g3 g := fun {g t cs} hg h1 h2 hs => by
    rcases hs with rfl | rfl | rfl
    · exact row_holds h.doc.now hg h1 rfl
    · exact row_holds h.doc.thn hg h1 rfl
    · exact types_apart hg h.doc.fl_ h2 rfl
  refine ⟨⟨⟨hT.holds h.own.own (hne h.own.own (by decide) (by decide)), hT.holds h.own.row (hne h.own.row (by decide) (by decide)), h.own.map.block (hT.block _ h.own.map.lt fun hs => ?_), h.own.fine, h.own.most, h.own.dr⟩, hA, hf, h.lo⟩, hT.below (fun k hs => ?_) h.size, fun g t cs hg _ h1 h2 => hT.holds hg (hne hg h1 h2)⟩
  · obtain ⟨es, clock, hb, _⟩ := h.own.map
    have hrow : ∀ {q c : Nat} {ys : List Value}, w.ownsRow L.B 9 1 (.slice (some ⟨q, 0, none⟩) L.n c) L.n ys → L.b ≠ q := fun {q c ys} hr e => by
      rcases hr.2 with ⟨hv, _⟩ | ⟨g, cap, cur, hv, _, hg, _⟩
      · cases hv
      · injection hv with h1
        injection h1 with h1
        injection h1 with h1
        rw [← h1, ← e, hb] at hg
        cases hg
    rcases hs with e | e | e
    · exact hrow h.doc.now e
    · exact hrow h.doc.thn e
    · exact map_apart h.doc.fl_ h.own.map e.symm
  · have := h.doc.nB
    rcases hs with rfl | rfl | rfl <;> omega

/-- What a Write answers, and what is held then. -/
def wrAns (n : Nat) (D : Dk) (at_ : Int) (s : ByteArray) : Int × Dk := if 0 ≤ at_ ∧ at_ < (n : Int) ∧ s.size = 64 then (0, D.write at_.toNat s) else (700, D)
theorem tdWrite {at_ : Int} {s : ByteArray} {c : Int} (e : wrAns L.n D at_ s = (c, D')) (h : TwoD w L D E) :
    Calls Try.prog 32 #[.pointer (some ⟨L.d, 0, none⟩), .int .i64 at_, .string s] w fun e w' => e = .returned (.int .i64 c) ∧ TwoD w' L D' E ∧ Below L.B w w' ∧ KeepD w w' := by
  unfold wrAns at e
  by_cases hc : 0 ≤ at_ ∧ at_ < (L.n : Int) ∧ s.size = 64
  · rw [if_pos hc] at e
    injection e with e1 e2
    subst e1
    obtain ⟨k, rfl⟩ : ∃ k : Nat, at_ = (k : Int) := ⟨at_.toNat, by omega⟩
    rw [Int.toNat_natCast] at e2
    subst e2
    exact (dkWrite_yes k s hc.2.2 _ _ _ _ D (by omega) w h.own).mono fun _ _ ⟨he, hA, hT⟩ => ⟨he, h.mine hT hA⟩
  · rw [if_neg hc] at e
    injection e with e1 e2
    subst e1 e2
    by_cases h1 : 0 ≤ at_ ∧ at_ < (L.n : Int)
    · obtain ⟨k, rfl⟩ : ∃ k : Nat, at_ = (k : Int) := ⟨at_.toNat, by omega⟩
      exact (dkWrite_not k s (fun e => hc ⟨h1.1, h1.2, e⟩) _ _ _ _ D (by omega) w h.own).mono fun _ _ ⟨he, hw⟩ => ⟨he, by rw [← hw]; exact ⟨h, Below.refl _ _, fun _ _ _ hg _ _ _ => hg⟩⟩
    · exact (dkWrite_no at_ s _ _ _ _ D h1 w h.own).mono fun _ _ ⟨he, hw⟩ => ⟨he, by rw [← hw]; exact ⟨h, Below.refl _ _, fun _ _ _ hg _ _ _ => hg⟩⟩
theorem tdWriteR {at_ : Int} {s : ByteArray} {c : Int} (e : wrAns L.n E at_ s = (c, E')) (h : TwoD w L D E) :
    Calls Try.prog 33 #[.pointer (some ⟨L.x, 0, none⟩), .int .i64 at_, .string s] w fun e w' => e = .returned (.int .i64 c) ∧ TwoD w' L D E' ∧ Below L.B w w' ∧ KeepD w w' := by
  unfold wrAns at e
  by_cases hc : 0 ≤ at_ ∧ at_ < (L.n : Int) ∧ s.size = 64
  · rw [if_pos hc] at e
    injection e with e1 e2
    subst e1
    obtain ⟨k, rfl⟩ : ∃ k : Nat, at_ = (k : Int) := ⟨at_.toNat, by omega⟩
    rw [Int.toNat_natCast] at e2
    have hk : k < L.n := by omega
    refine (rdWrite_yes k s hk hc.2.2 w h.doc).mono fun _ _ ⟨he, hA, hT⟩ => ⟨he, h.docs hT ?_ (by rw [← e2]; exact h.fin.write hk hc.2.2)⟩
    subst e2
    show RDiskAt _ _ _ _ _ _ _ _ _ (E.xs.set k s) (thnD L.n (E.write k s)) (flD L.n (E.write k s))
    rw [thnD_write, flD_write s hk]
    exact hA
  · rw [if_neg hc] at e
    injection e with e1 e2
    subst e1 e2
    exact (rdWrite_no at_ s hc w h.doc).mono fun _ _ ⟨he, hw⟩ => ⟨he, by rw [← hw]; exact ⟨h, Below.refl _ _, fun _ _ _ hg _ _ _ => hg⟩⟩
/-- What a Read answers. -/
def rdAns (n : Nat) (D : Dk) (at_ : Int) : ByteArray × Int := if 0 ≤ at_ ∧ at_ < (n : Int) then (D.xs.getD at_.toNat ⟨#[]⟩, 0) else (⟨#[]⟩, 700)
theorem tdRead {at_ : Int} {s : ByteArray} {c : Int} (e : rdAns L.n D at_ = (s, c)) (h : TwoD w L D E) :
    Calls Try.prog 34 #[.pointer (some ⟨L.d, 0, none⟩), .int .i64 at_] w fun e w' => e = .returned (.tuple #[.string s, .int .i64 c]) ∧ w = w' := by
  unfold rdAns at e
  by_cases hc : 0 ≤ at_ ∧ at_ < (L.n : Int)
  · rw [if_pos hc] at e
    injection e with e1 e2
    obtain ⟨k, rfl⟩ : ∃ k : Nat, at_ = (k : Int) := ⟨at_.toNat, by omega⟩
    rw [Int.toNat_natCast] at e1
    subst e1 e2
    exact dkRead_yes k _ _ _ _ D (by omega) w h.own
  · rw [if_neg hc] at e
    injection e with e1 e2
    subst e1 e2
    exact dkRead_no at_ _ _ _ _ D hc w h.own
theorem tdReadR {at_ : Int} {s : ByteArray} {c : Int} (e : rdAns L.n E at_ = (s, c)) (h : TwoD w L D E) :
    Calls Try.prog 35 #[.pointer (some ⟨L.x, 0, none⟩), .int .i64 at_] w fun e w' => e = .returned (.tuple #[.string s, .int .i64 c]) ∧ w = w' := by
  unfold rdAns at e
  by_cases hc : 0 ≤ at_ ∧ at_ < (L.n : Int)
  · rw [if_pos hc] at e
    injection e with e1 e2
    obtain ⟨k, rfl⟩ : ∃ k : Nat, at_ = (k : Int) := ⟨at_.toNat, by omega⟩
    rw [Int.toNat_natCast] at e1
    subst e1 e2
    exact rdRead_yes k _ (xs_at h.fin (by omega)) w h.doc
  · rw [if_neg hc] at e
    injection e with e1 e2
    subst e1 e2
    exact rdRead_no at_ hc w h.doc
theorem tdSync (h : TwoD w L D E) : Calls Try.prog 36 #[.pointer (some ⟨L.d, 0, none⟩)] w fun e w' => e = .returned (.int .i64 0) ∧ TwoD w' L D.sync E ∧ Below L.B w w' ∧ KeepD w w' :=
  (dkSync_any _ _ _ _ D w h.own).mono fun _ _ ⟨he, hA, hT⟩ => ⟨he, h.mine hT hA⟩
theorem tdSyncR (h : TwoD w L D E) : Calls Try.prog 37 #[.pointer (some ⟨L.x, 0, none⟩)] w fun e w' => e = .returned (.tuple #[]) ∧ TwoD w' L D E.sync ∧ Below L.B w w' ∧ KeepD w w' :=
  (rdSync_any w h.doc).mono fun _ _ ⟨he, hA, hT⟩ => ⟨he, h.docs hT (by
    show RDiskAt _ _ _ _ _ _ _ _ _ E.xs (thnD L.n E.sync) (flD L.n E.sync)
    rw [thnD_clean h.fin.sync rfl, flD_clean rfl]
    exact hA) h.fin.sync⟩
theorem tdCrash (keep : Int) (h : TwoD w L D E) : Calls Try.prog 38 #[.pointer (some ⟨L.d, 0, none⟩), .int .i64 keep] w fun e w' => e = .returned (.int .i64 0) ∧ TwoD w' L (D.crash keep) E ∧ Below L.B w w' ∧ KeepD w w' :=
  (dkCrash_any keep _ _ _ _ D w h.own).mono fun _ _ ⟨he, hA, hT⟩ => ⟨he, h.mine hT hA⟩
theorem tdCrashR (keep : Int) (h : TwoD w L D E) : Calls Try.prog 39 #[.pointer (some ⟨L.x, 0, none⟩), .int .i64 keep] w fun e w' => e = .returned (.tuple #[]) ∧ TwoD w' L D (E.crash keep) ∧ Below L.B w w' ∧ KeepD w w' :=
  (rdCrash_any keep h.fin w h.doc).mono fun _ _ ⟨he, hA, hT⟩ => ⟨he, h.docs hT hA (h.fin.crash keep)⟩
end

end Go.Proofs.Ytbclmkpigdeilaa
