/- strings.Builder: copyCheck, WriteString, Write, String, at this program (copyCheck's last branch is cut off here, so the shelf's own text does not fit).
   Layer 4, the program's side: Sign.
   Layer 4, the program's side: Candidate, the refusals.
   Layer 4, the program's side: Candidate, the answer. -/
import Derived.Shelf.Strings.BuilderK
import Derived.Test.YtmfajekfipfjpaaGreatOtsA
import Derived.Test.YtmfajekfipfjpaaGreatRefBe
import Derived.Test.YtmfajekfipfjpaaGreatOtsPr
set_option maxRecDepth 100000
namespace Go.Proofs.YtmfajekfipfjpaaGreat
open Go.Shelf Go.RowKit
open Go.Lib (strCells strCells_length strCells_oneCell)

theorem Tryz.sizeBld : (Tryz.prog.info? 78).map (·.size) = some 2 := by kernel_rfl
theorem Tryz.liesBld : liesAt Tryz.prog Tryz.prog.depth 78 (2 / Tryz.prog.cellsOf 78) 0 78 1 = true := by kernel_rfl

def Tryz.lays169_ren : Go.Shelf.Ren := ⟨fun | 169 => 40 | n => n, fun | 70 => 76 | 9 => 9 | 0 => 0 | 72 => 78 | 37 => 65 | 127 => 120 | 3 => 3 | 5 => 5 | n => n, fun | n => n⟩
theorem Tryz.lays169 : Go.Proofs.Lays.n169 Tryz.prog Tryz.lays169_ren := {
  mixed := by kernel_rfl
  f169 := Tryz.func40.trans (congrArg some (by kernel_rfl))
  t0 := Tryz.underlying0
  a0 := Tryz.isAgg0
  z0 := Tryz.sizeOf0
  v0 := Tryz.zeroValue0
  t3 := Tryz.underlying3
  a3 := Tryz.isAgg3
  z3 := Tryz.sizeOf3
  v3 := Tryz.zeroValue3
  t9 := Tryz.underlying9
  a9 := Tryz.isAgg9
  z9 := Tryz.sizeOf9
  v9 := Tryz.zeroValue9
  t37 := Tryz.underlying65
  a37 := Tryz.isAgg65
  z37 := Tryz.sizeOf65
  v37 := Tryz.zeroValue65
  t70 := Tryz.underlying76
  a70 := Tryz.isAgg76
  z70 := Tryz.sizeOf76
  v70 := Tryz.zeroValue76
  t72 := Tryz.underlying78
  a72 := Tryz.isAgg78
  z72 := Tryz.sizeOf78
  v72 := Tryz.zeroValue78
  t127 := Tryz.underlying120
  a127 := Tryz.isAgg120
  z127 := Tryz.sizeOf120
  v127 := Tryz.zeroValue120 }
theorem Tryz.Builder_Extra_169 : Builder.Extra Tryz.prog Tryz.lays169_ren := {
  sizeBuilder := by kernel_rfl
  liesBuilder := by kernel_rfl
  t5 := Tryz.underlying5
  a5 := Tryz.isAgg5
  z5 := Tryz.sizeOf5
  v5 := Tryz.zeroValue5
  infoByte := by kernel_rfl
  cellsByte := by kernel_rfl
  sizeByte := by kernel_rfl
  neB5 := by decide }

/-- A builder in block b, made by the call: these bytes. -/
def Bld (w : World) (b : Nat) (l : List UInt8) : Prop := Go.Lib.IsBuilderF 78 5 b b (Go.Lib.byteCells l) w

theorem byteCells_lib (l : List UInt8) : Go.Lib.byteCells l = byteCells l := rfl

set_option maxHeartbeats 1000000 in
theorem copyCheck_used (b : Nat) (w : World) (h0 : w.cell? ⟨b, 0, none⟩ = some (.pointer (some ⟨b, 0, none⟩))) :
    Calls Tryz.prog 67 #[.pointer (some ⟨b, 0, none⟩)] w fun e w' => e = .returned (.tuple #[]) ∧ w' = w := by
  obtain ⟨j, hj, _⟩ := Option.map_eq_some_iff.1 Tryz.sizeBld
  have hj' := hid hj
  clear hj
  go_enter Tryz.func67, Tryz.ntmps67
  go_wp2
  rw [Lib.run_neq_ptr_same w _ Tryz.underlying76 hj'.out]
  go_wp2
  go_end0
  exact ⟨rfl, rfl⟩

set_option maxHeartbeats 1000000 in
theorem copyCheck_fresh (b : Nat) (w : World) (h0 : w.cell? ⟨b, 0, none⟩ = some (.pointer none)) (hsh : w.shape? b = some (78, 2)) (hfz : w.frozen? ⟨b, 0, none⟩ = false) :
    Calls Tryz.prog 67 #[.pointer (some ⟨b, 0, none⟩)] w fun e w' => e = .returned (.tuple #[]) ∧ w' = w.setCell ⟨b, 0, none⟩ (.pointer (some ⟨b, 0, none⟩)) := by
  obtain ⟨j, hj0, hjs0⟩ := Option.map_eq_some_iff.1 Tryz.sizeBld
  have hj := hid hj0
  have hjs := hid hjs0
  have hshh := hid hsh
  clear hj0 hjs0 hsh
  go_enter Tryz.func67, Tryz.ntmps67
  go_wp2
  rw [Lib.run_to_unsafe w ⟨b, 0, none⟩ Tryz.underlying76 Tryz.underlying150 hj.out (by rw [hjs.out]; decide) hshh.out (Nat.zero_lt_succ 1)]
  simp only [Result.andThen]
  rw [Oper.upon_value]
  go_wp2
  rw [run_callFunc_extern Tryz.func91 (by kernel_rfl) (by kernel_rfl) (by kernel_rfl) (e := Extern.AbiNoEscape.same) (by kernel_rfl)]
  rw [Lib.run_noEscape]
  simp only [Result.andThen]
  rw [Oper.upon_value]
  go_wp2
  rw [Lib.run_from_unsafe w ⟨b, 0, none⟩ Tryz.underlying150 Tryz.underlying76 hj.out hshh.out Tryz.liesBld]
  simp only [Result.andThen]
  rw [Oper.upon_value]
  go_wp2
  go_end0
  exact ⟨rfl, rfl⟩

theorem copyCheck_any (B b : Nat) (bs : List Value) (w : World) (h : Lib.IsBuilderF 78 5 B b bs w) :
    Calls Tryz.prog 67 #[.pointer (some ⟨b, 0, none⟩)] w fun e w' => e = .returned (.tuple #[]) ∧ (Lib.BuilderAtF 78 5 B b (.pointer (some ⟨b, 0, none⟩)) bs w' ∧ Below B w w' ∧ Lib.OthersKept 5 (some b) w w') := by
  rcases h with h | h
  · refine (copyCheck_fresh b w h.cell0 h.shape h.frozen0).mono ?_
    rintro e w' ⟨rfl, rfl⟩
    exact ⟨rfl, h.used _, (Below.refl B w).setCell (p := ⟨b, 0, none⟩) h.1 _, (Lib.OthersKept.refl _ _ w).setCell ⟨b, 0, none⟩ rfl _⟩
  · refine (copyCheck_used b w h.cell0).mono ?_
    rintro e w' ⟨rfl, rfl⟩
    exact ⟨rfl, h, Below.refl B _, Lib.OthersKept.refl _ _ _⟩

set_option maxHeartbeats 2000000 in
theorem bWriteString_k (B b : Nat) (bs : List Value) (s : ByteArray) (w : World) (h : Lib.IsBuilderF 78 5 B b bs w) (hlen : bs.length + s.size ≤ 140737488355328) (hBw : B ≤ w.heap.size) :
    Calls Tryz.prog 38 #[.pointer (some ⟨b, 0, none⟩), .string s] w fun e w' => e = .returned (.tuple #[.int .i64 s.size, .nilIface]) ∧ (Lib.BuilderAtF 78 5 B b (.pointer (some ⟨b, 0, none⟩)) (bs ++ Lib.strCells s) w' ∧ Below B w w' ∧ Lib.OthersKept 5 (some b) w w') := by
  obtain ⟨i0, hi, hz0, hz1, hz2⟩ := info_parts Tryz.infoU8
  go_enter Tryz.func38, Tryz.ntmps38
  go_wp2_with fail
  refine (copyCheck_any B b bs _ h).mono ?_
  rintro e w1 ⟨rfl, h1, hb1, hk1⟩
  obtain ⟨hB, v, hbk, hown, hne⟩ := h1
  have c0 : w1.cell? ⟨b, 0, none⟩ = some (.pointer (some ⟨b, 0, none⟩)) := by rw [Lib.cell_of_heap hbk]; rfl
  have c1 : w1.cell? ⟨b, 1, none⟩ = some v := by rw [Lib.cell_of_heap hbk]; rfl
  go_wp2_with (at_builtin; refine Lib.wpList_append_own_stringF _ rfl _ _ 65 9 rfl B 5 i0 Tryz.underlying65 Tryz.underlying9 hi hz0 hz1 hz2 _ _ _ rfl hown s rfl ?c3 ?c4 ?c5 ?_)
  case c3 => unfold maxLen; omega
  case c4 => omega
  case c5 => have := hb1.size; omega
  intro v' w2 hown' hgrow _
  have hlt : b < w1.heap.size := by
    rcases Nat.lt_or_ge b w1.heap.size with h' | h'
    · exact h'
    · simp [Array.getElem?_eq_none h'] at hbk
  have hb2 : w2.heap[b]? = some (.cells #[.pointer (some ⟨b, 0, none⟩), v] 78 (0, 0)) := by
    rw [hgrow.block b hlt (fun e => hne e.symm)]
    exact hbk
  have d0 : w2.cell? ⟨b, 0, none⟩ = some (.pointer (some ⟨b, 0, none⟩)) := by rw [Lib.cell_of_heap hb2]; rfl
  have d1 : w2.cell? ⟨b, 1, none⟩ = some v := by rw [Lib.cell_of_heap hb2]; rfl
  have f1 : w2.frozen? ⟨b, 1, none⟩ = false := Lib.frozen_of_heap hb2 1
  obtain ⟨ao, n', cap, rfl⟩ : ∃ ao n' cap, v' = .slice ao n' cap := by
    rcases hown'.2 with ⟨hv, _⟩ | ⟨g, cap, cur, fz, hv, _⟩
    · exact ⟨_, _, _, hv⟩
    · exact ⟨_, _, _, hv⟩
  go_wp2
  go_ret2
  refine ⟨rfl, ?_, ?_, (hk1.grown hgrow (Lib.ownsRowF_kind hown)).setCell ⟨b, 1, none⟩ rfl _⟩
  · exact Lib.BuilderAtF.put (T := 78) (e := 5) hB hb2 (bs' := bs ++ Lib.strCells s) (by simpa [Lib.strCells_length] using hown') (by decide)
  · exact (hb1.grown hgrow (by have := hb1.size; omega) (fun k hk => (hown.lt k hk).1)).setCell (p := ⟨b, 1, none⟩) hB _

set_option maxHeartbeats 2000000 in
theorem bWrite_k (B b : Nat) (bs : List Value) (g n c : Nat) (news : List Value) (w : World) (h : Lib.IsBuilderF 78 5 B b bs w) (hn : news.length = n) (_h0 : 0 < n) (h1 : ∀ u ∈ news, u.oneCell' = true)
    (hg : w.heap[g]? = some (.cells news.toArray 60 (0, 0))) (hgb : g ≠ b) (hlen : bs.length + n ≤ 140737488355328) (hBw : B ≤ w.heap.size) :
    Calls Tryz.prog 39 #[.pointer (some ⟨b, 0, none⟩), .slice (some ⟨g, 0, none⟩) n c] w fun e w' => e = .returned (.tuple #[.int .i64 n, .nilIface]) ∧ (Lib.BuilderAtF 78 5 B b (.pointer (some ⟨b, 0, none⟩)) (bs ++ news) w' ∧ Below B w w' ∧ Lib.OthersKept 5 (some b) w w') := by
  obtain ⟨i0, hi, hz0, hz1, hz2⟩ := info_parts Tryz.infoU8
  have hn' := hid hn
  have hg' := hid hg
  have h1' := hid h1
  clear hn hg h1
  go_enter Tryz.func39, Tryz.ntmps39
  go_wp2_with fail
  refine (copyCheck_any B b bs _ h).mono ?_
  rintro e w1 ⟨rfl, h1, hb1, hk1⟩
  have hg1 := hid (hk1 g _ hg'.out (fun e => hgb (Option.some.inj e)) (fun c fz e => by
    injection e with _ e2 _
    revert e2
    decide))
  obtain ⟨hB, v, hbk, hown, hne⟩ := h1
  have c0 : w1.cell? ⟨b, 0, none⟩ = some (.pointer (some ⟨b, 0, none⟩)) := by rw [Lib.cell_of_heap hbk]; rfl
  have c1 : w1.cell? ⟨b, 1, none⟩ = some v := by rw [Lib.cell_of_heap hbk]; rfl
  go_wp2_with (at_builtin; refine wpList_append_ownF _ rfl _ _ 65 rfl B 5 i0 (.int .u8 0) 1 1 Tryz.underlying65 hi hz0 hz1 hz2 rfl (by decide) _ _ _ rfl hown ⟨g, 0, none⟩ n c news rfl ?c1 ?c2 h1'.out ?c3 ?c4 ?c5 ?_)
  case c1 => rw [hn'.out, Nat.mul_one]
  case c2 => exact World.news_of_block hg1.out
  case c3 => unfold maxLen; omega
  case c4 => omega
  case c5 => have := hb1.size; omega
  intro v' w2 hown' hgrow _
  have hlt : b < w1.heap.size := by
    rcases Nat.lt_or_ge b w1.heap.size with h' | h'
    · exact h'
    · simp [Array.getElem?_eq_none h'] at hbk
  have hb2 : w2.heap[b]? = some (.cells #[.pointer (some ⟨b, 0, none⟩), v] 78 (0, 0)) := by
    rw [hgrow.block b hlt (fun e => hne e.symm)]
    exact hbk
  have d0 : w2.cell? ⟨b, 0, none⟩ = some (.pointer (some ⟨b, 0, none⟩)) := by rw [Lib.cell_of_heap hb2]; rfl
  have d1 : w2.cell? ⟨b, 1, none⟩ = some v := by rw [Lib.cell_of_heap hb2]; rfl
  have f1 : w2.frozen? ⟨b, 1, none⟩ = false := Lib.frozen_of_heap hb2 1
  obtain ⟨ao, n', cap, rfl⟩ : ∃ ao n' cap, v' = .slice ao n' cap := by
    rcases hown'.2 with ⟨hv, _⟩ | ⟨g, cap, cur, fz, hv, _⟩
    · exact ⟨_, _, _, hv⟩
    · exact ⟨_, _, _, hv⟩
  go_wp2
  go_ret2
  refine ⟨rfl, ?_, ?_, (hk1.grown hgrow (Lib.ownsRowF_kind hown)).setCell ⟨b, 1, none⟩ rfl _⟩
  · exact Lib.BuilderAtF.put (T := 78) (e := 5) hB hb2 (bs' := bs ++ news) (by simpa [hn'.out] using hown') (by decide)
  · exact (hb1.grown hgrow (by have := hb1.size; omega) (fun k hk => (hown.lt k hk).1)).setCell (p := ⟨b, 1, none⟩) hB _

/-! In the spelling that callers use. -/

theorem Bld.lt {w : World} {b : Nat} {l : List UInt8} (h : Bld w b l) : b < w.heap.size := by
  have : ∃ o, w.heap[b]? = some o := by
    rcases h with h | h
    · obtain ⟨_, v, hb, _⟩ := h
      exact ⟨_, hb⟩
    · obtain ⟨_, v, hb, _⟩ := h
      exact ⟨_, hb⟩
  obtain ⟨o, ho⟩ := this
  exact (Array.getElem?_eq_some_iff.1 ho).1

theorem Bld.fresh (w : World) : Bld (w.alloc (.cells #[.pointer none, .slice none 0 0] 78)) w.heap.size [] :=
  .inl ⟨Nat.le_refl _, _, heap_alloc_new w _, World.ownsRowF_nil _ _ _ _, by simp [Value.ownBlock]⟩

theorem BuilderAtF_below {T e : TypeId} {B b : Nat} {p : Value} {bs : List Value} {w w' : World} (h : Lib.BuilderAtF T e B b p bs w) (hb : Below w.heap.size w w') : Lib.BuilderAtF T e B b p bs w' := by
  obtain ⟨h1, v, h2, h3, h4⟩ := h
  refine ⟨h1, v, (hb.block b (Array.getElem?_eq_some_iff.1 h2).1).trans h2, ⟨h3.1, ?_⟩, h4⟩
  rcases h3.2 with hn | ⟨g, cap, cur, fz, hv, hbg, hgg, rest⟩
  · exact .inl hn
  · exact .inr ⟨g, cap, cur, fz, hv, hbg, (hb.block g (Array.getElem?_eq_some_iff.1 hgg).1).trans hgg, rest⟩

theorem Bld.below {w w' : World} {b : Nat} {l : List UInt8} (h : Bld w b l) (hb : Below w.heap.size w w') : Bld w' b l := h.elim (fun x => .inl (BuilderAtF_below x hb)) (fun x => .inr (BuilderAtF_below x hb))

theorem bWriteString_any (b : Nat) (l : List UInt8) (s : ByteArray) (w : World) (h : Bld w b l) (hlen : l.length + s.size ≤ 1000000000000) :
    Calls Tryz.prog 38 #[.pointer (some ⟨b, 0, none⟩), .string s] w fun e w' => e = .returned (.tuple #[.int .i64 s.size, .nilIface]) ∧ Bld w' b (l ++ s.data.toList) ∧ Below b w w' ∧ Lib.OthersKept 5 (some b) w w' := by
  have hbl : (Go.Lib.byteCells l).length = l.length := by unfold Go.Lib.byteCells; rw [List.length_map]
  refine (bWriteString_k b b _ s w h (by rw [hbl]; omega) (Nat.le_of_lt h.lt)).mono ?_
  rintro e w' ⟨rfl, h1, h2, h3⟩
  refine ⟨rfl, .inr ?_, h2, h3⟩
  have e : Go.Lib.byteCells l ++ Lib.strCells s = Go.Lib.byteCells (l ++ s.data.toList) := by unfold Go.Lib.byteCells Lib.strCells; rw [List.map_append]
  rw [e] at h1
  exact h1

theorem bWrite_any (b g c : Nat) (l x : List UInt8) (w : World) (h : Bld w b l) (hx : x.length = 32) (hg : Holds w g 60 (byteCells x)) (hgb : g ≠ b) (hlen : l.length ≤ 1000000000000) :
    Calls Tryz.prog 39 #[.pointer (some ⟨b, 0, none⟩), .slice (some ⟨g, 0, none⟩) 32 c] w fun e w' => e = .returned (.tuple #[.int .i64 32, .nilIface]) ∧ Bld w' b (l ++ x) ∧ Below b w w' ∧ Lib.OthersKept 5 (some b) w w' := by
  have hbl : (Go.Lib.byteCells l).length = l.length := by unfold Go.Lib.byteCells; rw [List.length_map]
  have hxl : (byteCells x).length = 32 := by rw [byteCells, List.length_map, hx]
  refine (bWrite_k b b _ g 32 c (byteCells x) w h hxl (by decide) (byteCells_one x) hg hgb (by rw [hbl]; omega) (Nat.le_of_lt h.lt)).mono ?_
  rintro e w' ⟨rfl, h1, h2, h3⟩
  refine ⟨rfl, .inr ?_, h2, h3⟩
  have e : Go.Lib.byteCells l ++ byteCells x = Go.Lib.byteCells (l ++ x) := by
    rw [← byteCells_lib]
    unfold Go.Lib.byteCells
    rw [List.map_append]
  rw [e] at h1
  exact h1

theorem bString_any (b : Nat) (l : List UInt8) (w : World) (h : Bld w b l) :
    Calls Tryz.prog 40 #[.pointer (some ⟨b, 0, none⟩)] w fun e w' => e = .returned (.string (txt l)) ∧ Below b w w' := by
  refine (Any.Builder_String_any_k Tryz.lays169 Tryz.Builder_Extra_169 b b l w h (Nat.le_of_lt h.lt)).mono ?_
  rintro e w' ⟨rfl, _, h2, _⟩
  exact ⟨rfl, h2⟩

/-- What another block holds is kept, if it is no row of bytes. -/
theorem kept_holds {w w' : World} {b g : Nat} {t : TypeId} {cs : List Value} (hk : Lib.OthersKept 5 (some b) w w') (h : Holds w g t cs) (hgb : g ≠ b) (ht : t ≠ 5) : Holds w' g t cs :=
  hk g _ h (fun e => hgb (Option.some.inj e)) (fun c fz e => by injection e with _ e2 _; exact ht e2)

end Go.Proofs.YtmfajekfipfjpaaGreat
namespace Go.Proofs.YtmfajekfipfjpaaGreat
open Go.RowKit
open Go.Lib (strCells strCells_length strCells_oneCell)
attribute [local irreducible] Sha.compress Sha.blocks Sha.sha Sha.pad

/-- What lies where while the program signs. -/
structure SgnP (w wr : World) (D : List Nat) (gB gD : Nat) (l : List UInt8) : Prop where
  d : Holds wr gD 3 (nums D)
  bl : Bld wr gB l
  lo : w.heap.size ≤ gB
  lg : gB < gD
  b : Below w.heap.size w wr

theorem SgnP.below {w wr w' : World} {D : List Nat} {gB gD : Nat} {l : List UInt8} (h : SgnP w wr D gB gD l) (hb : Below wr.heap.size wr w') : SgnP w w' D gB gD l :=
  ⟨h.d.below hb h.d.lt, h.bl.below hb, h.lo, h.lg, h.b.trans (hb.mono h.b.size)⟩

theorem SgnP.wrote {w wr w' : World} {D : List Nat} {gB gD : Nat} {l l' : List UInt8} (h : SgnP w wr D gB gD l) (hl : Bld w' gB l') (hb : Below gB wr w') (hk : Lib.OthersKept 5 (some gB) wr w') : SgnP w w' D gB gD l' :=
  ⟨kept_holds hk h.d (by have := h.lg; omega) (by decide), hl, h.lo, h.lg, h.b.trans (hb.mono h.lo)⟩

set_option maxHeartbeats 2000000 in
theorem Sign_good (kind q : Int) (id seed msg : ByteArray) (o : Ots.Par) (hgood : otsGood kind q id seed = some o) (hms : msg.size ≤ 65536) (w : World) :
    Calls Tryz.prog 36 #[.int .i64 kind, .string id, .int .i64 q, .string seed, .string msg] w fun e w' => e = .returned (.tuple #[.string (txt (Ots.sign o kind.toNat (Ots.head id.data.toList q.toNat) seed.data.toList msg.data.toList)), .int .i64 0]) ∧ Below w.heap.size w w' := by
  obtain ⟨hpar, hm, hs32⟩ := good_parts hgood
  obtain ⟨hid16, n, rfl, hn⟩ := may_parts hm
  obtain ⟨m, ho⟩ := par_ok hpar
  obtain ⟨hkn, hk4⟩ := kind_nat hpar
  have hans : parAns kind = .tuple #[.agg (parC o), .bool true] := by unfold parAns; rw [hpar]
  have hans' := hid hans
  have hd := hid (head_list id n)
  have hhs : (id ++ be 4 n).size = 20 := by rw [ByteArray.size_append, be_size, hid16]
  have hcat : id.size + (be 4 n).size ≤ 9223372036854775807 := by rw [be_size, hid16]; decide
  rw [Int.toNat_natCast]
  obtain ⟨hd2, hhd⟩ : ∃ t, Ots.head id.data.toList n = t := ⟨_, rfl⟩
  rw [hhd]
  rw [hhd] at hd
  obtain ⟨H, hH⟩ : ∃ H, id ++ be 4 n = H := ⟨_, rfl⟩
  rw [hH] at hd hhs
  have hd' := hid hd.out
  have hp100 := ho.p100
  have hw8 := ho.w8
  have hw1 := ho.w1
  have htop : o.top ≤ 255 := by
    have := Nat.pow_le_pow_right (n := 2) (by omega) hw8
    unfold Ots.Par.top
    omega
  have hpS := hid (fun W => private_any H seed 65533 W (by omega) (by omega))
  rw [hd'.out] at hpS
  have hsl0 : Ots.priv hd2 65533 seed.data.toList = Ots.salt hd2 seed.data.toList := rfl
  obtain ⟨sl, hsl⟩ : ∃ sl, Ots.salt hd2 seed.data.toList = sl := ⟨_, rfl⟩
  rw [hsl0, hsl] at hpS
  have hsl32 : sl.length = 32 := by rw [← hsl]; exact sha_len32 _
  have hdg := hid (fun W => digits_any o m ho H (txt sl) msg W (by omega) (by rw [txt_size, hsl32]; decide) (by omega))
  rw [hd'.out, txt_list] at hdg
  obtain ⟨D, hD⟩ : ∃ D, Ots.digits o hd2 sl msg.data.toList = D := ⟨_, rfl⟩
  rw [hD] at hdg
  have hDp : D.length = o.p := by rw [← hD]; exact digits_len o m ho _ _ _
  have hDt : ∀ i, D.getD i 0 ≤ o.top := fun i => by rw [← hD]; exact Ots.digits_le o _ _ _ i
  obtain ⟨f, hf⟩ : ∃ f : Nat → List UInt8, Ots.chain o hd2 seed.data.toList msg.data.toList = f := ⟨_, rfl⟩
  have hfe : ∀ i, f i = Ots.steps hd2 i 0 (D.getD i 0) (Ots.priv hd2 i seed.data.toList) := fun i => by
    rw [← hf, ← hD, ← hsl]
    rfl
  have hsg : Ots.sign o kind.toNat hd2 seed.data.toList msg.data.toList = beL 4 kind.toNat ++ (sl ++ ((List.range o.p).map f).flatten) := by rw [Ots.sign_eq, hsl, hf]
  have hwk : ∀ (i : Nat) W, i < 1000000 → Calls Tryz.prog 65 #[.string H, .int .i64 (i : Int), .int .i64 0, .int .i64 ((D.getD i 0 : Nat) : Int), hv (Ots.priv hd2 i seed.data.toList)] W fun e w' => e = .returned (hv (f i)) ∧ Below W.heap.size W w' := fun i W hi => by
    have h := walk_any H i 0 (D.getD i 0) (Ots.priv hd2 i seed.data.toList) W (sha_len32 _) (by omega) (by have := hDt i; omega) (by omega)
    rw [hd.out, Nat.sub_zero, ← hfe] at h
    exact h
  have hpv : ∀ (i : Nat) W, Calls Tryz.prog 63 #[.string H, .int .i64 (i : Int), .string seed] W fun e w' => e = .returned (hv (Ots.priv hd2 i seed.data.toList)) ∧ Below W.heap.size W w' := fun i W => by
    have h := private_any H seed i W (by omega) (by omega)
    rw [hd.out] at h
    exact h
  have hf32 : ∀ i, (f i).length = 32 := fun i => by
    rw [hfe]
    exact steps_len _ _ _ _ (sha_len32 _) _
  have hbe := hid (fun W => U32_any n W)
  have hbk := hid (fun W => U32_any kind.toNat W)
  rw [← hkn] at hbk
  rw [hsg]
  obtain ⟨fl, hfl⟩ : ∃ fl : Nat → List UInt8, (fun k => beL 4 kind.toNat ++ (sl ++ ((List.range k).map f).flatten)) = fl := ⟨_, rfl⟩
  have hfl0 : fl 0 = beL 4 kind.toNat ++ sl := by rw [← hfl]; simp
  have hflp : beL 4 kind.toNat ++ (sl ++ ((List.range o.p).map f).flatten) = fl o.p := by rw [← hfl]
  have hfl32 : ∀ k, (fl k).length = 36 + 32 * k := fun k => by
    rw [← hfl]
    simp only [List.length_append, beL_length, hsl32, Ots.flat32 f hf32 k]
    omega
  have hfln : ∀ k, fl (k + 1) = fl k ++ f k := fun k => by
    rw [← hfl]
    simp only [Ots.flat_next f k, List.append_assoc]
  rw [hflp]
  have hwk' := hid hwk
  have hpv' := hid hpv
  have hf32' := hid hf32
  have hfl0' := hid hfl0
  have hfl32' := hid hfl32
  have hfln' := hid hfln
  have hDp' := hid hDp
  have hDt' := hid hDt
  have hx0 : ((o.w : Int) == 0) = false := by
    simp
    omega
  have hs0 : ((seed.size : Int) != 32) = false := by simp; omega
  have hs0' : ((seed.size : Int) == 32) = true := by simp; omega
  have hb0 : decide ((65536 : Int) < (msg.size : Int)) = false := by simp; omega
  have hsl32' := hid hsl32
  have hhs' := hid hhs
  have hsz := par_size (parC o) rfl
  have h1c : (parC o).all (·.oneCell') = true := by simp [parC, Value.oneCell']
  clear hans hgood hpar hwk hpv hf32 hf hfe hhd hd ho hfl hflp hfl0 hfl32 hfln hDp hDt hD hsg hsl hsl0 hsl32 hkn hhs
  generalize kind.toNat = kn at *
  unfold hv at hpS
  go_enter Tryz.func36, Tryz.ntmps36
  go_wp2_with fail
  refine (OtsOf_any kind _).mono ?_
  rintro e W2 ⟨rfl, hb2⟩
  rw [hans'.out]
  have hthere := par_there W2 (parC o) rfl
  rename_i hK1
  refine hK1 _ _ ?_
  clear hK1
  have hB2 := hid hb2
  clear hb2
  go_wp2_with (first
    | ((with_reducible refine at_slot (some 12) ?_); refine wpList_run rfl (.pointer (some ⟨W2.heap.size, 0, none⟩)) (W2.alloc (.cells noC 54)) (by kernel_rfl) ?_)
    | ((with_reducible refine at_slot none ?_); refine wpList_store_mid rfl 54 (.tmp 12) (.tmp 23) rfl W2.heap.size 0 (parC o) rfl rfl (by exact hthere) (by exact hsz) (by exact h1c) ?_; generalize hW7 : World.setCells _ _ _ _ = W7
       have hP7 := par_new (parC o) rfl hW7
       have hO7 := hid hP7.1
       have hB7 := hid (hB2.out.trans (hP7.2.mono hB2.out.size))
       clear hP7 hW7 hthere)
    | (go_at_call 62; refine (nameMay_any id _ _).mono ?_; rintro e w' ⟨rfl, rfl⟩; rw [hm]))
  refine (hbe.out _).mono ?_
  rintro e W8 ⟨rfl, hb8⟩
  have hO8 := hid (hO7.out.below hb8 hO7.out.lt)
  have hB8 := hid (hB7.out.trans (hb8.mono hB7.out.size))
  have hgO := hid hB2.out.size
  clear hb8
  generalize W2.heap.size = gO at *
  go_wp2_with fail
  refine (hpS.out _).mono ?_
  rintro e W9 ⟨rfl, hb9⟩
  have hO9 := hid (hO8.out.below hb9 hO8.out.lt)
  have hB9 := hid (hB8.out.trans (hb9.mono hB8.out.size))
  clear hb9
  have hsz2 := hv_size sl hsl32'.out
  have h1c2 := all_oneCell_toArray (byteCells_one sl)
  have hth := hv_there W9 sl hsl32'.out
  rename_i hK1
  refine hK1 _ _ ?_
  clear hK1
  go_wp2_with (first
    | ((with_reducible refine at_slot (some 15) ?_); refine wpList_run rfl (.pointer (some ⟨W9.heap.size, 0, none⟩)) (W9.alloc (.cells z32 60)) (by kernel_rfl) ?_)
    | ((with_reducible refine at_slot none ?_); refine wpList_store_mid rfl 60 (.tmp 15) (.tmp 49) rfl W9.heap.size 0 (byteCells sl).toArray rfl rfl (by exact hth) (by exact hsz2) (by exact h1c2) ?_; generalize hW10 : World.setCells _ _ _ _ = W10
       obtain ⟨hS10, hb10⟩ := hv_new sl hsl32'.out hW10
       have hO10 := hid (hO9.out.below hb10 hO9.out.lt)
       have hB10 := hid (hB9.out.trans (hb10.mono hB9.out.size))
       have hlt10 := hid hS10.lt
       have hS10' := hid hS10
       clear hS10 hb10 hW10 hth))
  refine (hbk.out _).mono ?_
  rintro e W11 ⟨rfl, hb11⟩
  have hba : Below W10.heap.size W10 (W10.alloc (.cells #[.pointer none, .slice none 0 0] 78)) := (Below.refl _ _).alloc (Nat.le_refl _) _
  have hL11 := hid ((Bld.fresh W10).below hb11)
  have hO11 := hid (((hO10.out.alloc _).below hb11 (hO10.out.alloc _).lt))
  have hS11 := hid (((hS10'.out.alloc _).below hb11 (hS10'.out.alloc _).lt))
  have hB11 := hid ((hB10.out.trans (hba.mono hB10.out.size)).trans (hb11.mono (by have := hB10.out.size; have := hba.size; omega)))
  have hgS := hid (hO9.out.lt)
  have hgB := hid (hlt10.out)
  have hlo := hid hB10.out.size
  clear hb11 hba hlt10
  generalize W9.heap.size = gS at *
  generalize W10.heap.size = gB at *
  have hOS : gO < gS := hgS.out
  have hSB : gS < gB := hgB.out
  go_wp2_with fail
  refine (bWriteString_any gB [] (be 4 kn) _ hL11.out (by rw [be_size]; decide)).mono ?_
  rintro e W12 ⟨rfl, hl12, hb12, hk12⟩
  rw [List.nil_append] at hl12
  have hL12 := hid hl12
  have hO12 := hid (kept_holds hk12 hO11.out (by omega) (by decide))
  have hS12 := hid (kept_holds hk12 hS11.out (by omega) (by decide))
  have hB12 := hid (hB11.out.trans (hb12.mono hlo.out))
  clear hl12 hb12 hk12
  go_wp2_with fail
  refine (bWrite_any gB gS 32 _ sl _ hL12.out hsl32'.out hS12.out (by omega) (by rw [data_length, be_size]; decide)).mono ?_
  rintro e W13 ⟨rfl, hl13, hb13, hk13⟩
  have hbl : (be 4 kn).data.toList ++ sl = fl 0 := by rw [hfl0'.out]; rfl
  rw [hbl] at hl13
  have hL13 := hid hl13
  have hO13 := hid (kept_holds hk13 hO12.out (by omega) (by decide))
  have hS13 := hid (kept_holds hk13 hS12.out (by omega) (by decide))
  have hB13 := hid (hB12.out.trans (hb13.mono hlo.out))
  clear hl13 hb13 hk13 hbl
  go_wp2_with fail
  have hu := Tryz.underlying54
  have hi : (Tryz.prog.info? 54).map (·.size) = some (parC o).toList.length := hsz
  have hSt : Holds W13.drew gO 54 (parC o).toList ∧ Holds W13.drew gS 60 (byteCells sl) := ⟨hO13.out.drew, hS13.out.drew⟩
  refine wp_region_held_drew (S := fun w' => Holds w' gO 54 (parC o).toList ∧ Holds w' gS 60 (byteCells sl)) (by kernel_rfl) (by exact hSt) (fun zH => ?_)
  refine tkx 0 _ zH ?_ (hy := yieldsIf_load_mid (by kernel_rfl) _ _ rfl _ _ rfl _ _ (fun w h => h_all h.1) hu rfl hi); simp only [lp]
  refine tkx 1 (.string H) zH ?_; simp only [lp]
  refine tkx 2 (.slice (some ⟨gS, 0, none⟩) 32 32) zH ?_; simp only [lp]
  refine tkx 3 (.string (txt sl)) zH ?_ (hy := .inl ⟨by kernel_rfl, fun w hw => by have hcv := hv_text sl hsl32'.out w gS hw.2; go_simp⟩); simp only [lp]
  refine tkx 4 (.string msg) zH ?_; simp only [lp]
  refine tkx 7 (.int .i64 0) zH ?_; simp only [lp]
  refine wpAnyH_ready (rs := [5]) (by kernel_rfl) (by simp) (AllReadyH.cons rfl (fun K hK => ?_) AllReadyH.nil)
  have hK' := hid hK
  clear hK
  rw [if_pos (by kernel_rfl)]
  simp only [ly1, ly2, ly3]
  go_simp
  refine (hdg.out _).mono ?_
  rintro e W14 ⟨gD, rfl, hgD, hD14, hb14⟩
  have hbd : Below W13.heap.size W13 W13.drew := (Below.refl _ _).drew
  have hL14 := hid ((hL13.out.below hbd).below hb14)
  have hO14 := hO13.out.drew.below hb14 hO13.out.drew.lt
  have hS14 := hS13.out.drew.below hb14 hS13.out.drew.lt
  have hP14 : SgnP w W14 D gB gD (fl 0) := ⟨hD14, hL14.out, hlo.out, Nat.lt_of_lt_of_le hL13.out.lt hgD, hB13.out.drew.trans (hb14.mono hB13.out.size)⟩
  have hP14' := hid hP14
  have hS15 : Holds W14 gO 54 (parC o).toList ∧ Holds W14 gS 60 (byteCells sl) := ⟨hO14, hS14⟩
  clear hP14 hb14 hbd hD14 hgD hO14 hS14
  refine hK'.out _ _ (by exact hS15) (fun zH => ?_)
  clear hK' K
  refine tkx 6 (.int .i64 (o.p : Int)) zH ?_; simp only [lp]
  refine wpAnyH_done (by kernel_rfl) ?_ _
  clear hS15 hSt zH
  go_wp2_with fail
  go_loopw [62] (fun i wr => ∃ (k : Nat), k ≤ o.p ∧ i = .int .i64 (k : Int) ∧ SgnP w wr D gB gD (fl k)) (fun i _ => o.p - (intOf i).toNat)
  case atStart => exact ⟨0, Nat.zero_le _, rfl, hP14'.out⟩
  case round =>
    obtain ⟨k, hk, rfl, hP⟩ := hrel
    have hP' := hid hP
    clear hP
    by_cases hlt : k < o.p
    · have hkp : (k : Int) < (o.p : Int) := by omega
      have hk0 : (0 : Int) ≤ (k : Int) := by omega
      have hwk := hid (fun W => hwk'.out k W (by omega))
      have hpv := hid (fun W => hpv'.out k W)
      have hfk := hf32'.out k
      have hnx := hid (hfln'.out k)
      have hlk := hid (hfl32'.out k)
      have hDk : D[k]? = some (D.getD k 0) := by
        have := hDp'.out
        rw [List.getD, List.getElem?_eq_getElem (by omega)]
        rfl
      obtain ⟨d, hd0⟩ : ∃ d, D.getD k 0 = d := ⟨_, rfl⟩
      rw [hd0] at hwk hDk
      have hcd : wr.cell? ⟨gD, k, none⟩ = some (.int .i64 (d : Int)) := (hP'.out.d.cell k).trans (by rw [nums_at, hDk]; rfl)
      clear hd0 hDk
      unfold hv at hwk hpv
      generalize Ots.priv hd2 k seed.data.toList = pv at *
      generalize f k = fk at *
      have hszf := hv_size fk hfk
      have h1f := all_oneCell_toArray (byteCells_one fk)
      go_wp2_with fail
      refine (hpv.out _).mono ?_
      rintro e W15 ⟨rfl, hb15⟩
      have hP15 := hid (hP'.out.below hb15)
      clear hb15 hcd
      go_wp2_with fail
      refine (hwk.out _).mono ?_
      rintro e W16 ⟨rfl, hb16⟩
      have hP16 := hid (hP15.out.below hb16)
      clear hb16
      have hth6 := hv_there W16 fk hfk
      rename_i hK1
      refine hK1 _ _ ?_
      clear hK1
      go_wp2_with (first
        | ((with_reducible refine at_slot (some 19) ?_); refine wpList_run rfl (.pointer (some ⟨W16.heap.size, 0, none⟩)) (W16.alloc (.cells z32 60)) (by kernel_rfl) ?_)
        | ((with_reducible refine at_slot none ?_); refine wpList_store_mid rfl 60 (.tmp 19) (.tmp 74) rfl W16.heap.size 0 (byteCells fk).toArray rfl rfl (by exact hth6) (by exact hszf) (by exact h1f) ?_; generalize hW17 : World.setCells _ _ _ _ = W17
           obtain ⟨hS17, hb17⟩ := hv_new fk hfk hW17
           have hP17 := hid (hP16.out.below hb17)
           have hS17' := hid hS17
           clear hS17 hb17 hW17 hth6))
      have hne := hid (hP16.out.bl.lt)
      refine (bWrite_any gB W16.heap.size 32 _ fk _ hP17.out.bl hfk hS17'.out (by have := hne.out; omega) (by rw [hlk.out]; omega)).mono ?_
      rintro e W18 ⟨rfl, hl18, hb18, hk18⟩
      rw [← hnx.out] at hl18
      have hP18 := hid (hP17.out.wrote hl18 hb18 hk18)
      clear hl18 hb18 hk18
      go_wp2_with fail
      go_roundw
      case rel => exact ⟨k + 1, by omega, by go_num, hP18.out⟩
      case measure => simp [intOf]; omega
    · obtain rfl : k = o.p := by omega
      have hno : ¬ ((o.p : Nat) : Int) < (o.p : Int) := by omega
      go_wp2_with fail
      refine (bString_any gB _ _ hP'.out.bl).mono ?_
      rintro e W15 ⟨rfl, hb15⟩
      have hB15 := hid (hP'.out.b.trans (hb15.mono hP'.out.lo))
      clear hb15
      go_wp2_with fail
      go_ret2
      exact ⟨rfl, hB15.out⟩

end Go.Proofs.YtmfajekfipfjpaaGreat
namespace Go.Proofs.YtmfajekfipfjpaaGreat
open Go.RowKit
open Go.Lib (strCells strCells_length strCells_oneCell)
attribute [local irreducible] Sha.compress Sha.blocks Sha.sha Sha.pad

/-- The kind, where a signature may be asked for. -/
def candGood (q : Int) (id msg s : ByteArray) : Option Ots.Par := if s.size < 4 then none else match Ots.par (numL (s.data.toList.take 4) : Int) with
  | some o => if s.size = 36 + 32 * o.p ∧ Ots.may id.size q = true ∧ msg.size ≤ 65536 then some o else none
  | none => none

theorem cand_parts {q : Int} {id msg s : ByteArray} {o : Ots.Par} (h : candGood q id msg s = some o) : Ots.par (numL (s.data.toList.take 4) : Int) = some o ∧ s.size = 36 + 32 * o.p ∧ Ots.may id.size q = true ∧ msg.size ≤ 65536 ∧ kindAns s = .tuple #[.agg (parC o), .bool true] := by
  unfold candGood at h
  split at h
  · cases h
  · rename_i h4
    cases hp : Ots.par (numL (s.data.toList.take 4) : Int) with
    | none => rw [hp] at h; cases h
    | some o' =>
      rw [hp] at h
      simp only at h
      split at h
      · rename_i hc
        cases h
        refine ⟨rfl, hc.1, hc.2.1, hc.2.2, ?_⟩
        unfold kindAns
        rw [if_neg h4, hp]
        simp only [hc.1, decide_true]
      · cases h

end Go.Proofs.YtmfajekfipfjpaaGreat
namespace Go.Proofs.YtmfajekfipfjpaaGreat
open Go.RowKit
open Go.Lib (strCells strCells_length strCells_oneCell)
attribute [local irreducible] Sha.compress Sha.blocks Sha.sha Sha.pad

/-- What lies where while the program makes a candidate. -/
structure CndP (w wr : World) (o : Ots.Par) (D : List Nat) (gO gE gD : Nat) (xs : List (List UInt8)) : Prop where
  p : Pubs w wr o gO gE xs
  d : Holds wr gD 3 (nums D)
  lg : gE < gD

theorem CndP.below {w wr w' : World} {o : Ots.Par} {D : List Nat} {gO gE gD : Nat} {xs : List (List UInt8)} (h : CndP w wr o D gO gE gD xs) (hb : Below wr.heap.size wr w') : CndP w w' o D gO gE gD xs :=
  ⟨h.p.below hb, h.d.below hb h.d.lt, h.lg⟩

theorem CndP.set {w wr : World} {o : Ots.Par} {D : List Nat} {gO gE gD : Nat} {xs : List (List UInt8)} (h : CndP w wr o D gO gE gD xs) {k : Nat} (hk : k < o.p) (x : List UInt8) (hx : x.length = 32) : CndP w (wr.setCells gE (k * 32) (byteCells x)) o D gO gE gD (xs.set k x) :=
  ⟨h.p.set hk x hx, Holds.fars h.d _ _ _ (by have := h.lg; omega), h.lg⟩

/-- A store elsewhere. -/
theorem CndP.away {w wr : World} {o : Ots.Par} {D : List Nat} {gO gE gD gP : Nat} {xs : List (List UInt8)} (h : CndP w wr o D gO gE gD xs) (cs : List Value) (hP : gD < gP) : CndP w (wr.setCells gP 0 cs) o D gO gE gD xs := by
  have h1 := h.lg
  have h2 := h.p.le
  have h3 := h.p.lo
  exact ⟨⟨Holds.fars h.p.ho _ _ _ (by omega), Holds.fars h.p.r _ _ _ (by omega), ⟨h.p.e.len, h.p.e.all, Holds.fars h.p.e.at_ _ _ _ (by omega)⟩, h3, h2, below_setCells h.p.b _ _ _ (by omega)⟩, Holds.fars h.d _ _ _ (by omega), h1⟩

theorem part_of (s : ByteArray) (k : Nat) : ((s.extract 36 s.size).extract (k * 32) (s.extract 36 s.size).size).data.toList.take 32 = Ots.part s.data.toList k := by
  have e1 : (s.extract 36 s.size).data.toList = s.data.toList.drop 36 := by
    simp [List.take_of_length_le]
  have e2 : ∀ t : ByteArray, ∀ j, (t.extract j t.size).data.toList = t.data.toList.drop j := by
    intro t j
    simp [List.take_of_length_le]
  rw [e2, e1, List.drop_drop]
  unfold Ots.part
  rw [Nat.mul_comm k 32]

theorem cut4 (s : ByteArray) : (s.extract 4 36).data.toList = (s.data.toList.drop 4).take 32 := by
  simp [List.take_drop]

theorem part_len (s : ByteArray) (o : Ots.Par) (h : s.size = 36 + 32 * o.p) (k : Nat) (hk : k < o.p) : (Ots.part s.data.toList k).length = 32 := by
  unfold Ots.part
  rw [List.length_take, List.length_drop, data_length]
  omega

set_option maxHeartbeats 2000000 in
theorem Candidate_good (q : Int) (id msg sign : ByteArray) (o : Ots.Par) (hgood : candGood q id msg sign = some o) (w : World) :
    Calls Tryz.prog 42 #[.string id, .int .i64 q, .string msg, .string sign] w fun e w' => e = .returned (.tuple #[hv (Ots.cand o (Ots.head id.data.toList q.toNat) msg.data.toList sign.data.toList), .int .i64 0]) ∧ Below w.heap.size w w' := by
  obtain ⟨hpar, hss, hm, hms, hans⟩ := cand_parts hgood
  obtain ⟨hid16, n, rfl, hn⟩ := may_parts hm
  obtain ⟨m, ho⟩ := par_ok hpar
  have hans' := hid hans
  have hd := hid (head_list id n)
  have hhs : (id ++ be 4 n).size = 20 := by rw [ByteArray.size_append, be_size, hid16]
  have hcat : id.size + (be 4 n).size ≤ 9223372036854775807 := by rw [be_size, hid16]; decide
  rw [Int.toNat_natCast]
  obtain ⟨hd2, hhd⟩ : ∃ t, Ots.head id.data.toList n = t := ⟨_, rfl⟩
  rw [hhd]
  rw [hhd] at hd
  obtain ⟨H, hH⟩ : ∃ H, id ++ be 4 n = H := ⟨_, rfl⟩
  rw [hH] at hd hhs
  have hd' := hid hd.out
  have hp100 := ho.p100
  have hw8 := ho.w8
  have hw1 := ho.w1
  have htop : o.top ≤ 255 := by
    have := Nat.pow_le_pow_right (n := 2) (by omega) hw8
    unfold Ots.Par.top
    omega
  have hss36 : (36 : Int) ≤ (sign.size : Int) := by omega
  have hkd := hid (fun W => kindOf_any sign W (by omega))
  obtain ⟨S4, hS4⟩ : ∃ S4, sign.extract 4 36 = S4 := ⟨_, rfl⟩
  obtain ⟨P2, hP2⟩ : ∃ P2, sign.extract 36 sign.size = P2 := ⟨_, rfl⟩
  have hS4l : S4.data.toList = (sign.data.toList.drop 4).take 32 := by rw [← hS4]; exact cut4 sign
  have hS4s : S4.size = 32 := by rw [← data_length, hS4l, List.length_take, List.length_drop, data_length]; omega
  have hP2s : P2.size = 32 * o.p := by
    rw [← hP2, ByteArray.size_extract]
    omega
  have hprt := hid (fun k => by have h := part_of sign k; rw [hP2] at h; exact h)
  have hpl := hid (fun k (hk : k < o.p) => part_len sign o hss k hk)
  have hdg := hid (fun W => digits_any o m ho H S4 msg W (by omega) (by omega) (by omega))
  rw [hd'.out, hS4l] at hdg
  obtain ⟨D, hD⟩ : ∃ D, Ots.digits o hd2 ((sign.data.toList.drop 4).take 32) msg.data.toList = D := ⟨_, rfl⟩
  rw [hD] at hdg
  have hDp : D.length = o.p := by rw [← hD]; exact digits_len o m ho _ _ _
  have hDt : ∀ i, D.getD i 0 ≤ o.top := fun i => by rw [← hD]; exact Ots.digits_le o _ _ _ i
  obtain ⟨f, hf⟩ : ∃ f : Nat → List UInt8, (fun i => Ots.steps hd2 i (D.getD i 0) (o.top - D.getD i 0) (Ots.part sign.data.toList i)) = f := ⟨_, rfl⟩
  have hcand : Ots.cand o hd2 msg.data.toList sign.data.toList = Ots.gather hd2 ((List.range o.p).map f) := by rw [← hf, ← hD]; rfl
  have hwk : ∀ (i : Nat) W, i < o.p → Calls Tryz.prog 65 #[.string H, .int .i64 (i : Int), .int .i64 ((D.getD i 0 : Nat) : Int), .int .i64 (o.top : Int), hv (Ots.part sign.data.toList i)] W fun e w' => e = .returned (hv (f i)) ∧ Below W.heap.size W w' := fun i W hi => by
    have h := walk_any H i (D.getD i 0) o.top (Ots.part sign.data.toList i) W (hpl.out i hi) (by omega) (by omega) (by have := hDt i; omega)
    rw [hd.out] at h
    rw [← hf]
    exact h
  have hf32 : ∀ i, i < o.p → (f i).length = 32 := fun i hi => by
    rw [← hf]
    exact steps_len _ _ _ _ (hpl.out i hi) _
  have hga := hid (fun (g n c : Nat) (xs : List (List UInt8)) (w : World) (hE : Ends w g n xs) (hg : g < w.heap.size) (hn : n ≤ 100) => gather_any H g n c xs w hE hg hn (by omega))
  rw [hd.out] at hga
  rw [hcand]
  have hbe := hid (fun W => U32_any n W)
  have hst := hid (fun W => Steps_any o ho.w8 W)
  have hwk' := hid hwk
  have hf32' := hid hf32
  have hDp' := hid hDp
  obtain ⟨W1, hW1⟩ : ∃ W1, w.alloc (.cells z32 60) = W1 := ⟨_, rfl⟩
  have hH1 : Holds W1 w.heap.size 60 z32.toList := by rw [← hW1]; exact Holds.new w _ _
  have hb1 : Below w.heap.size w W1 := by rw [← hW1]; exact (Below.refl _ _).alloc (Nat.le_refl _) _
  have hs1 : W1.heap.size = w.heap.size + 1 := by rw [← hW1]; simp
  have hW1' := hid hW1
  have hH1' := hid hH1
  have hb1' := hid hb1
  have hs1' := hid hs1
  have hb0 : decide ((65536 : Int) < (msg.size : Int)) = false := by simp; omega
  have hsz := par_size (parC o) rfl
  have h1c : (parC o).all (·.oneCell') = true := by simp [parC, Value.oneCell']
  have hu := Tryz.underlying54
  have hi : (Tryz.prog.info? 54).map (·.size) = some (parC o).toList.length := hsz
  have hP2s' := hid hP2s
  have hpc : parC o = #[.int .i64 (o.w : Int), .int .i64 (o.p : Int), .int .i64 (o.ls : Int)] := rfl
  have hpc' := hid hpc
  clear hans hgood hpar hwk hf32 hf hcand hhd hd ho hD hDp hDt hS4l hW1 hH1 hb1 hs1 hP2s hpc hss
  go_enter Tryz.func42, Tryz.ntmps42
  go_wp2_with ((with_reducible refine at_slot (some 8) ?_); refine wpList_run rfl (.pointer (some ⟨w.heap.size, 0, none⟩)) (w.alloc (.cells z32 60)) (by kernel_rfl) ?_; rw [hW1'.out])
  refine (hkd.out _).mono ?_
  rintro e W2 ⟨rfl, hb2⟩
  rw [hans'.out]
  have hthere := par_there W2 (parC o) rfl
  rename_i hK1
  refine hK1 _ _ ?_
  clear hK1
  have hH2 := hid (hH1'.out.below hb2 hH1'.out.lt)
  have hB2 := hid (hb1'.out.trans (hb2.mono hb1'.out.size))
  have hs2 : w.heap.size < W2.heap.size := by have := hb2.size; have := hs1'.out; omega
  clear hb2
  go_wp2_with (first
    | ((with_reducible refine at_slot (some 10) ?_); refine wpList_run rfl (.pointer (some ⟨W2.heap.size, 0, none⟩)) (W2.alloc (.cells noC 54)) (by kernel_rfl) ?_)
    | ((with_reducible refine at_slot none ?_); refine wpList_store_mid rfl 54 (.tmp 10) (.tmp 22) rfl W2.heap.size 0 (parC o) rfl rfl (by exact hthere) (by exact hsz) (by exact h1c) ?_; generalize hW7 : World.setCells _ _ _ _ = W7
       have hP7 := par_new (parC o) rfl hW7
       have hO7 := hid hP7.1
       have hH7 := hid (hH2.out.below hP7.2 hH2.out.lt)
       have hB7 := hid (hB2.out.trans (hP7.2.mono hB2.out.size))
       clear hP7 hW7 hthere)
    | (go_at_call 62; refine (nameMay_any id _ _).mono ?_; rintro e w' ⟨rfl, rfl⟩; rw [hm]))
  refine (hbe.out _).mono ?_
  rintro e W8 ⟨rfl, hb8⟩
  have hO8 := hid (hO7.out.below hb8 hO7.out.lt)
  have hH8 := hid (hH7.out.below hb8 hH7.out.lt)
  have hB8 := hid (hB7.out.trans (hb8.mono hB7.out.size))
  clear hb8
  generalize W2.heap.size = gO at *
  go_wp2_with fail
  refine wp_region_held_drew (S := fun _ => True) (by kernel_rfl) (by exact True.intro) (fun zH => ?_)
  refine tkx 0 (.string sign) zH ?_; simp only [lp]
  refine tkx 1 (.string S4) zH ?_; simp only [lp]
  refine tkx 2 (.string sign) zH ?_; simp only [lp]
  refine tkx 3 (.string P2) zH ?_; simp only [lp]
  refine tkx 4 (.string S4) zH ?_; simp only [lp]
  refine tkx 5 (.string P2) zH ?_; simp only [lp]
  refine wpAnyH_done (by kernel_rfl) ?_ _
  have hO9 := hid hO8.out.drew
  have hH9 := hid hH8.out.drew
  have hB9 := hid hB8.out.drew
  generalize W8.drew = W9 at *
  have hc9 : W9.cell? ⟨gO, 1, none⟩ = some (.int .i64 (o.p : Int)) := hO9.out.cell 1
  have hlt9 := hO9.out.lt
  go_wp2_with ((with_reducible refine at_slot (some 48) ?_); refine wpList_make_hashes rfl _ _ rfl _ o.p rfl rfl rfl (by omega) ?_; generalize hW10 : World.alloc _ _ = W10
               have hP10 : Pubs w W10 o gO W9.heap.size (fillH f o.p 0) := by
                 have hb10 : Below W9.heap.size W9 W10 := by rw [← hW10]; exact (Below.refl _ _).alloc (Nat.le_refl _) _
                 refine ⟨hO9.out.below hb10 hO9.out.lt, hH9.out.below hb10 hH9.out.lt, ⟨by simp [fillH], ?_, ?_⟩, hs2, hlt9, hB9.out.trans (hb10.mono hB9.out.size)⟩
                 · rw [fillH_zero]
                   intro x hx
                   rw [List.eq_of_mem_replicate hx]
                   exact h0_length
                 · rw [fillH_zero, ← hW10]
                   exact Holds.new W9 _ _
               have hP10' := hid hP10
               obtain ⟨c0, c1, c2⟩ := hP10.cells
               clear hP10 hW10 hc9)
  refine (hdg.out _).mono ?_
  rintro e W11 ⟨gD, rfl, hgD, hD11, hb11⟩
  have hC11 : CndP w W11 o D gO W9.heap.size gD (fillH f o.p 0) := ⟨hP10'.out.below hb11, hD11, Nat.lt_of_lt_of_le hP10'.out.e.at_.lt hgD⟩
  have hC11' := hid hC11
  clear hC11 hb11 hD11 hgD c0 c1 c2
  generalize W9.heap.size = gE at *
  go_wp2_with fail
  go_loopw [55] (fun i wr => ∃ (k : Nat), k ≤ o.p ∧ i = .int .i64 (k : Int) ∧ CndP w wr o D gO gE gD (fillH f o.p k)) (fun i _ => o.p - (intOf i).toNat)
  case atStart => exact ⟨0, Nat.zero_le _, rfl, hC11'.out⟩
  case round =>
    obtain ⟨k, hk, rfl, hC⟩ := hrel
    have hC' := hid hC
    clear hC
    by_cases hlt : k < o.p
    · have hkp : (k : Int) < (o.p : Int) := by omega
      have hk0 : (0 : Int) ≤ (k : Int) := by omega
      have hwk := hid (fun W => hwk'.out k W hlt)
      have hfk := hf32'.out k hlt
      have hpk := hpl.out k hlt
      have hset := hid (fillH_set f o.p k hlt)
      have hpr := hid (hprt.out k)
      have hmul := IntWalk.i64_in ((k : Int) * 32) (by omega)
      have hto : ((k : Int) * 32).toNat = k * 32 := by omega
      have hm0 : (0 : Int) ≤ (k : Int) * 32 := by omega
      have hmP : (k : Int) * 32 ≤ (P2.size : Int) := by have := hP2s'.out; omega
      have hDk : D[k]? = some (D.getD k 0) := by
        have := hDp'.out
        rw [List.getD, List.getElem?_eq_getElem (by omega)]
        rfl
      obtain ⟨d, hd0⟩ : ∃ d, D.getD k 0 = d := ⟨_, rfl⟩
      rw [hd0] at hwk hDk
      have hcd : wr.cell? ⟨gD, k, none⟩ = some (.int .i64 (d : Int)) := (hC'.out.d.cell k).trans (by rw [nums_at, hDk]; rfl)
      clear hd0 hDk
      unfold hv at hwk
      obtain ⟨pk, hpke⟩ : ∃ pk, Ots.part sign.data.toList k = pk := ⟨_, rfl⟩
      rw [hpke] at hwk hpk hpr
      clear hpke
      have hset2 := hid (fun (W : World) (h : CndP w W o D gO gE gD (fillH f o.p k)) => h.set hlt (f k) hfk)
      have hthr := hid (fun (W : World) (h : CndP w W o D gO gE gD (fillH f o.p k)) => h.p.there hlt (f k) hfk)
      rw [hset.out] at hset2
      obtain ⟨fk, hfke⟩ : ∃ fk, f k = fk := ⟨_, rfl⟩
      rw [hfke] at hwk hfk hset2 hthr
      clear hfke
      have hszf := hv_size fk hfk
      have h1f := all_oneCell_toArray (byteCells_one fk)
      have hszp := hv_size pk hpk
      have hi2 : (Tryz.prog.info? 60).map (·.size) = some (byteCells pk).length := by rw [hszp, List.size_toArray]
      have hu2 := Tryz.underlying60
      go_wp2_with ((with_reducible refine at_slot (some 18) ?_); refine wpList_run rfl (.pointer (some ⟨wr.heap.size, 0, none⟩)) (wr.alloc (.cells z32 60)) (by kernel_rfl) ?_; generalize hW12 : World.alloc _ _ = W12)
      have hb12 : Below wr.heap.size wr W12 := by rw [← hW12]; exact (Below.refl _ _).alloc (Nat.le_refl _) _
      have hC12 := hid ((hC'.out.below hb12).below (Below.refl _ _).drew)
      have hz12 : Holds W12.drew wr.heap.size 60 z32.toList := by rw [← hW12]; exact (Holds.new wr _ _).drew
      have hz12' := hid hz12
      have hgD' := hid hC'.out.d.lt
      clear hb12 hcd hW12 hz12
      generalize wr.heap.size = gP at *
      have hth12 : W12.drew.there gP 0 32 := hz12'.out.there 0 32 (by decide)
      have hC13 := hid (hC12.out.away (byteCells pk) hgD'.out)
      have hz13 := hid (hv_put pk rfl hz12'.out hpk).2
      refine wp_region_held_drew (S := fun _ => True) (by kernel_rfl) (by exact True.intro) (fun zH => ?_)
      refine tkx 0 (.slice (some ⟨gP, 0, none⟩) 32 32) zH ?_; simp only [lp]
      refine tkx 1 (.string P2) zH ?_; simp only [lp]
      refine tkx 2 (.int .i64 (k : Int)) zH ?_; simp only [lp]
      refine tkx 3 (.int .i64 ((k : Int) * 32)) zH ?_; simp only [lp]
      refine tkx 4 (.string (P2.extract (k * 32) P2.size)) zH ?_; simp only [lp]
      refine wpAnyH_ready (rs := [5]) (by kernel_rfl) (by simp) (AllReadyH.cons rfl (fun K hK => ?_) AllReadyH.nil)
      have hK' := hid hK
      clear hK
      rw [if_pos (by kernel_rfl)]
      simp only [ly1, ly2, ly3]
      refine wp_copy_min (.tmp 60) (.tmp 64) 65 9 5 rfl Tryz.underlying65 Tryz.sizeOf5 gP 0 32 32 _ rfl rfl hth12 ?_
      rw [hpr.out]
      refine hK'.out _ _ (by exact True.intro) (fun zH => ?_)
      clear hK' K
      simp only [lp]
      generalize World.setCells _ _ _ _ = W13 at *
      clear hth12
      generalize goInt _ = gi
      refine wpAnyH_done (by kernel_rfl) ?_ _
      go_wp2_with fail
      have hSt : Holds W13.drew gO 54 (parC o).toList ∧ Holds W13.drew gP 60 (byteCells pk) := ⟨hC13.out.p.ho.drew, hz13.out.drew⟩
      have hC14 := hid (hC13.out.below (Below.refl _ _).drew)
      have hz14 := hid hz13.out.drew
      refine wp_region_held_drew (S := fun w' => Holds w' gO 54 (parC o).toList ∧ Holds w' gP 60 (byteCells pk)) (by kernel_rfl) (by exact hSt) (fun zH => ?_)
      refine tkx 0 (.slice (some ⟨gE, 0, none⟩) o.p o.p) zH ?_; simp only [lp]
      refine tkx 1 (.int .i64 (k : Int)) zH ?_; simp only [lp]
      refine tkx 2 (.string H) zH ?_; simp only [lp]
      refine tkx 3 (.int .i64 (k : Int)) zH ?_; simp only [lp]
      refine tkx 4 (.int .i64 (d : Int)) zH ?_; simp only [lp]
      refine tkx 5 _ zH ?_ (hy := yieldsIf_load_mid (by kernel_rfl) _ _ rfl _ _ rfl _ _ (fun w h => h_all h.1) hu rfl hi); simp only [lp]
      refine tkx 7 _ zH ?_ (hy := yieldsIf_load_mid (by kernel_rfl) _ _ rfl _ _ rfl _ _ (fun w h => h_all h.2) hu2 rfl hi2); simp only [lp]
      refine wpAnyH_ready (rs := [6]) (by kernel_rfl) (by simp) (AllReadyH.cons rfl (fun K hK => ?_) AllReadyH.nil)
      have hK' := hid hK
      clear hK
      rw [if_pos (by kernel_rfl)]
      simp only [ly1, ly2, ly3]
      go_simp
      refine (hst.out _).mono ?_
      rintro e W15 ⟨rfl, hb15⟩
      have hC15 := hid (hC14.out.below hb15)
      have hz15 := hid (hz14.out.below hb15 hz14.out.lt)
      have hS15 : Holds W15 gO 54 (parC o).toList ∧ Holds W15 gP 60 (byteCells pk) := ⟨hC15.out.p.ho, hz15.out⟩
      clear hb15
      refine hK'.out _ _ (by exact hS15) (fun zH => ?_)
      clear hK' K
      refine wpAnyH_ready (rs := [8]) (by kernel_rfl) (by simp) (AllReadyH.cons rfl (fun K hK => ?_) AllReadyH.nil)
      have hK' := hid hK
      clear hK
      rw [if_pos (by kernel_rfl)]
      simp only [ly1, ly2, ly3]
      go_simp
      refine (hwk.out _).mono ?_
      rintro e W16 ⟨rfl, hb16⟩
      have hC16 := hid (hC15.out.below hb16)
      have hz16 := hid (hz15.out.below hb16 hz15.out.lt)
      have hS16 : Holds W16 gO 54 (parC o).toList ∧ Holds W16 gP 60 (byteCells pk) := ⟨hC16.out.p.ho, hz16.out⟩
      have hth16 := hthr.out _ hC16.out
      have hC17 := hid (hset2.out _ hC16.out)
      have hz17 := hid (Holds.fars hz16.out gE (k * 32) (byteCells fk) (by have := hgD'.out; have := hC16.out.lg; omega))
      clear hb16
      refine hK'.out _ _ (by exact hS16) (fun zH => ?_)
      clear hK' K
      refine tkx 9 (.pointer (some ⟨gE, k * 32, none⟩)) zH ?_; simp only [lp]
      refine wpAnyH_ready (rs := [10]) (by kernel_rfl) (by simp) (AllReadyH.cons rfl (fun K hK => ?_) AllReadyH.nil)
      have hK' := hid hK
      clear hK
      rw [if_pos (by kernel_rfl)]
      simp only [ly1, ly2, ly3]
      refine wp_store_mid _ _ _ rfl gE (k * 32) (byteCells fk).toArray rfl rfl (by exact hth16) (by exact hszf) (by exact h1f) ?_
      have e17 : (byteCells fk).toArray.toList = byteCells fk := rfl
      rw [e17]
      have hS17 : Holds (W16.setCells gE (k * 32) (byteCells fk)) gO 54 (parC o).toList ∧ Holds (W16.setCells gE (k * 32) (byteCells fk)) gP 60 (byteCells pk) := ⟨hC17.out.p.ho, hz17.out⟩
      refine hK'.out _ _ (by exact hS17) (fun zH => ?_)
      clear hK' K
      clear zH hS17 e17 hth16 hS16 hS15 hSt
      simp only [Act.put]
      generalize World.setCells _ _ _ _ = W17 at *
      refine wpAnyH_done (by kernel_rfl) ?_ _
      go_wp2_with fail
      go_roundw
      case rel => exact ⟨k + 1, by omega, by go_num, hC17.out⟩
      case measure => simp [intOf]; omega
    · obtain rfl : k = o.p := by omega
      have hP' := hid hC'.out.p
      have hP2 := hP'.out
      rw [fillH_all] at hP2
      have hga2 := hid (hga.out gE o.p o.p ((List.range o.p).map f) wr hP2.e hP2.e.at_.lt hp100)
      have hgl : (Ots.gather hd2 ((List.range o.p).map f)).length = 32 := sha_len32 _
      have hno : ¬ ((o.p : Nat) : Int) < (o.p : Int) := by omega
      clear hP2 hC'
      unfold hv at hga2
      obtain ⟨out, hout⟩ : ∃ out, Ots.gather hd2 ((List.range o.p).map f) = out := ⟨_, rfl⟩
      rw [hout] at hga2 hgl
      have hout' := hid hout
      clear hout
      have hsf := hv_size out hgl
      have h1f := all_oneCell_toArray (byteCells_one out)
      go_wp2_with fail
      refine (hga2.out).mono ?_
      rintro e W3 ⟨rfl, hb3⟩
      have hP3 := hid (hP'.out.below hb3)
      have hth3 := hv_put out (by decide) hP3.out.r hgl
      have hr4 := hid hth3.2
      have hth4 := hth3.1
      have hb4 := hid (below_setCells hP3.out.b w.heap.size 0 (byteCells out) (Nat.le_refl _))
      clear hb3 hth3
      rename_i hK1
      refine hK1 _ _ ?_
      clear hK1
      go_wp2_with (first
        | ((with_reducible refine at_slot none ?_); refine wpList_store_mid rfl 60 (.tmp 8) (.tmp 79) rfl w.heap.size 0 (byteCells out).toArray rfl rfl (by exact hth4) (by exact hsf) (by exact h1f) ?_; generalize hW6 : World.setCells _ _ _ _ = W6; rw [hW6] at hr4 hb4))
      exact bodyPost_ret (results_ct rfl _ _ w.heap.size 60 (byteCells out).toArray (0, 0) _ rfl hr4.out (.int .i64 0) rfl Tryz.underlying60 rfl (by exact hsf)) rfl ⟨by rw [hout'.out]; rfl, hb4.out⟩

end Go.Proofs.YtmfajekfipfjpaaGreat
