/- Layer 12, the program's side: what names others; what Build puts. -/
import Derived.Test.YtpjfhbmegabafaaLFtA
import Derived.Test.YtpjfhbmegabafaaLFtB
import Derived.Test.YtpjfhbmegabafaaLFtL
import Derived.Test.YtpjfhbmegabafaaLSameH
namespace Go.Proofs.Ytpjfhbmegabafaa
open Go.RowKit
open Go.Lib (strCells strCells_length strCells_oneCell)
attribute [local irreducible] Sha.compress Sha.blocks Sha.sha Sha.pad

/-- A builder that was written to. -/
abbrev BdAt (w : World) (B b : Nat) (bs : List Value) : Prop := Lib.BuilderAt 128 5 B b (.pointer (some ⟨b, 0, none⟩)) bs w
theorem bWS_any (B b : Nat) (bs : List Value) (s : ByteArray) (w : World) (h : Lib.IsBuilder 128 5 B b bs w) (hlen : bs.length + s.size ≤ 140737488355328) (hBw : B ≤ w.heap.size) :
    Calls Try.prog 67 #[.pointer (some ⟨b, 0, none⟩), .string s] w fun e w' => e = .returned (.tuple #[.int .i64 s.size, .nilIface]) ∧ BdAt w' B b (bs ++ Lib.strCells s) ∧ Below B w w' :=
  (Any.Builder_WriteString { Try.lays156 with } { Try.Builder_Extra_156 with } B b bs s w h hlen hBw).mono fun _ _ ⟨h1, h2, h3⟩ => ⟨h1, h2, h3⟩
theorem bCheck_used (b : Nat) (w : World) (h0 : w.cell? ⟨b, 0, none⟩ = some (.pointer (some ⟨b, 0, none⟩))) : Calls Try.prog 87 #[.pointer (some ⟨b, 0, none⟩)] w fun e w' => e = .returned (.tuple #[]) ∧ w' = w :=
  Any.Builder_copyCheck_used { Try.lays156 with } { Try.Builder_Extra_156 with } b w h0

set_option maxRecDepth 100000 in
set_option maxHeartbeats 1000000 in
theorem bWrite_any (B b : Nat) (bs : List Value) (p : Addr) (m c : Nat) (news : List Value) (w : World) (h : BdAt w B b bs) (hN : At w w.heap.size 1 (some p) m news) (hu : ∀ u ∈ news, u.oneCell' = true) (hl : bs.length + m ≤ 1000000000) (hB : B ≤ w.heap.size) :
    Calls Try.prog 69 #[.pointer (some ⟨b, 0, none⟩), .slice (some p) m c] w fun e w' => e = .returned (.tuple #[.int .i64 (m : Int), .nilIface]) ∧ BdAt w' B b (bs ++ news) ∧ Below B w w' := by
  obtain ⟨i0, hi, hz0, hzz, hby⟩ := info_parts Try.infoU8
  obtain ⟨hBb, v, hbk, hown, hne⟩ := h
  obtain ⟨A, n', cp, rfl⟩ : ∃ A n' cp, v = .slice A n' cp := by
    rcases hown.2 with ⟨hv, _⟩ | ⟨g, cap, cur, hv, _⟩
    · exact ⟨_, _, _, hv⟩
    · exact ⟨_, _, _, hv⟩
  obtain rfl : n' = bs.length := by
    rcases hown.2 with ⟨hv, h0⟩ | ⟨g, cap, cur, hv, _⟩
    · injection hv with _ e _
      omega
    · injection hv with _ e _
  have c0 : w.cell? ⟨b, 0, none⟩ = some (.pointer (some ⟨b, 0, none⟩)) := by rw [Lib.cell_of_heap hbk]; rfl
  have c1 : w.cell? ⟨b, 1, none⟩ = some (.slice A bs.length cp) := by rw [Lib.cell_of_heap hbk]; rfl
  have hck := hid (bCheck_used b w c0)
  have hown' := hid hown
  have hbk' := hid hbk
  have hne' := hid hne
  have hN' := hid hN
  have hu' := hid hu
  have hb1' := hid (show b < w.heap.size from (Array.getElem?_eq_some_iff.1 hbk).1)
  clear hown hbk hne hN hu
  go_enter Try.func69, Try.ntmps69
  go_wp2_with (first
    | (go_at_call 87; refine hck.out.mono ?_; rintro e w' ⟨rfl, hw⟩; obtain rfl := hw.symm; clear hw)
    | (at_builtin; refine wpList_appends rfl (.tmp 12) (.tmp 13) 51 5 rfl B i0 (.int .u8 0) 1 1 Try.underlying51 hi hz0 hzz hby rfl (by decide) A bs.length cp bs _ (some p) m c news rfl rfl (fun e => by cases e) hu'.out (by omega) (by omega) hown'.out hN'.out hB ?_; intro A2 c2 w2 hrow hbb hg; have hb2 : w2.heap[b]? = some (.cells #[.pointer (some ⟨b, 0, none⟩), .slice A bs.length cp] 128 (0, 0)) := (hg.block b hb1'.out (fun e => hne'.out e.symm)).trans hbk'.out; have d1 : w2.cell? ⟨b, 1, none⟩ = some (.slice A bs.length cp) := (Lib.cell_of_heap hb2 1).trans rfl; have f1 : w2.frozen? ⟨b, 1, none⟩ = false := Lib.frozen_of_heap hb2 1; have hrow2 := hid hrow; have hb2' := hid hb2; have hbb2 := hid hbb; clear hrow hb2 hbb c0 c1)
    | fail)
  have hfin := hid (show BdAt (w2.setCell ⟨b, 1, none⟩ (.slice A2 (bs.length + m) c2)) B b (bs ++ news) from Lib.BuilderAt.put (T := 128) (e := 5) hBb hb2'.out (bs' := bs ++ news) (by rw [List.length_append, show news.length = m from by have := hN'.out.1; omega]; exact hrow2.out) (by decide))
  have hfb := hid (show Below B w (w2.setCell ⟨b, 1, none⟩ (.slice A2 (bs.length + m) c2)) from hbb2.out.setCell (p := ⟨b, 1, none⟩) hBb _)
  go_ret2
  exact ⟨rfl, hfin.out, hfb.out⟩

theorem bd_on {w w' : World} {B b : Nat} {bs : List Value} (h : Lib.IsBuilder 128 5 B b bs w) (hb : Below w.heap.size w w') : Lib.IsBuilder 128 5 B b bs w' := by
  have hx : ∀ p, Lib.BuilderAt 128 5 B b p bs w → Lib.BuilderAt 128 5 B b p bs w' := fun p ⟨h1, v, h2, h3, h4⟩ => by
    refine ⟨h1, v, (hb.block b (Array.getElem?_eq_some_iff.1 h2).1).trans h2, ?_, h4⟩
    obtain ⟨h5, h6 | ⟨g, cap, cur, hv, hB, hh, rest⟩⟩ := h3
    · exact ⟨h5, .inl h6⟩
    · exact ⟨h5, .inr ⟨g, cap, cur, hv, hB, (hb.block g (Array.getElem?_eq_some_iff.1 hh).1).trans hh, rest⟩⟩
  exact h.imp (hx _) (hx _)
theorem bd_used {w w' : World} {B b : Nat} {bs : List Value} (h : BdAt w B b bs) (hb : Below w.heap.size w w') : BdAt w' B b bs := by
  obtain ⟨h1, v, h2, h3, h4⟩ := h
  refine ⟨h1, v, (hb.block b (Array.getElem?_eq_some_iff.1 h2).1).trans h2, ?_, h4⟩
  obtain ⟨h5, h6 | ⟨g, cap, cur, hv, hB, hh, rest⟩⟩ := h3
  · exact ⟨h5, .inl h6⟩
  · exact ⟨h5, .inr ⟨g, cap, cur, hv, hB, (hb.block g (Array.getElem?_eq_some_iff.1 hh).1).trans hh, rest⟩⟩
theorem at_holds {w : World} {g n : Nat} {t : TypeId} {cs : List Value} (h : Holds w g t cs) (hn : cs.length = n) : At w w.heap.size 1 (some ⟨g, 0, none⟩) n cs := by
  refine ⟨by omega, .inr ⟨_, rfl, h.lt, fun j hj => ?_⟩⟩
  rw [show (⟨g, 0, none⟩ : Addr).add j = ⟨g, j, none⟩ from by unfold Addr.add; split <;> simp_all, h.cell]
  exact List.getElem?_eq_getElem hj
/-- The bytes that name these hashes. -/
def nodeL (mark : ByteArray) (hs : List (List UInt8)) : List UInt8 := (mark ++ be 1 hs.length).data.toList ++ hs.flatten
def nodeB (mark : ByteArray) (hs : List (List UInt8)) : ByteArray := ⟨(nodeL mark hs).toArray⟩
theorem flat_next {hs : List (List UInt8)} {i : Nat} {x : List UInt8} (h : hs[i]? = some x) : (hs.take (i + 1)).flatten = (hs.take i).flatten ++ x := by
  rw [List.take_add_one, h]
  simp
theorem flat_len {hs : List (List UInt8)} (h : ∀ x ∈ hs, x.length = 32) : hs.flatten.length = hs.length * 32 := by
  induction hs with
  | nil => rfl
  | cons x hs ih =>
    rw [List.flatten_cons, List.length_append, h x (List.mem_cons_self ..), ih (fun y hy => h y (List.mem_cons_of_mem _ hy)), List.length_cons]
    omega
theorem bd_more (l x : List UInt8) : Lib.byteCells l ++ byteCells x = Lib.byteCells (l ++ x) := (List.map_append ..).symm
set_option maxRecDepth 100000 in
set_option maxHeartbeats 1000000 in
theorem node_any (mark : ByteArray) (hm : mark.size ≤ 10) (A : Option Addr) (n c : Nat) (hs : List (List UInt8)) (w : World) (hH : Hashs w w.heap.size A n hs) (hn : n ≤ 255) :
    Calls Try.prog 43 #[.string mark, .slice A n c] w fun e w' => e = .returned (.string (nodeB mark hs)) ∧ Below w.heap.size w w' := by
  obtain ⟨b, hb⟩ : ∃ b, w.heap.size = b := ⟨_, rfl⟩
  obtain ⟨W0, hW0⟩ : ∃ V, w.alloc (.cells #[.pointer none, .slice none 0 0] 128) = V := ⟨_, rfl⟩
  have hI0 := hid (show Lib.IsBuilder 128 5 b b (Lib.byteCells []) W0 from by rw [← hW0, ← hb]; exact Lib.fresh_isBuilder _ _ w)
  have hB0 := hid (show Below b w W0 from by rw [← hW0, ← hb]; exact (Below.refl _ _).alloc (Nat.le_refl _) _)
  have hz0 := hid (show b ≤ W0.heap.size from by rw [← hW0, ← hb]; simp)
  have hlen := hid hH.len
  have hn' := hid hn
  have hH' := hid (show Hashs w b A n hs from by rw [← hb]; exact hH)
  obtain ⟨t0, ht0⟩ : ∃ t, mark ++ be 1 n = t := ⟨_, rfl⟩
  have hts : t0.size ≤ 20 := by rw [← ht0, ByteArray.size_append, be_size]; omega
  have hU8 := hid (fun V => U8_any n V)
  obtain ⟨bn, hbn⟩ : ∃ t, be 1 n = t := ⟨_, rfl⟩
  have hbs : bn.size = 1 := by rw [← hbn]; exact be_size ..
  rw [hbn] at hU8 ht0
  have hsum : ¬ 9223372036854775807 < mark.size + bn.size := by omega
  have hfin := hid (show nodeB mark hs = ⟨(t0.data.toList ++ hs.flatten).toArray⟩ from by unfold nodeB nodeL; rw [hlen.out, hbn, ht0])
  have hts' := hid hts
  have hW0' := hid hW0
  have hb' := hid hb
  have hfl := hid (fun (k : Nat) => show (t0.data.toList ++ (hs.take k).flatten).length ≤ 10000 from by
    rw [List.length_append, data_length, flat_len (fun x hx => hH'.out.2 x (List.mem_of_mem_take hx)), List.length_take, hlen.out]
    omega)
  clear hW0 hH hn hts hbn
  go_enter Try.func43, Try.ntmps43
  go_wp2_with (first
    | ((with_reducible refine at_slot (some 5) ?_); refine wpList_run rfl (.pointer (some ⟨b, 0, none⟩)) (w.alloc (.cells #[.pointer none, .slice none 0 0] 128)) (by rw [← hb'.out]; kernel_rfl) ?_; rw [hW0'.out])
    | (go_at_call 68; refine (hU8.out W0).mono ?_; rintro e W1 ⟨rfl, hb1⟩; have hI1 := hid (show Lib.IsBuilder 128 5 b b (Lib.byteCells []) W1 from bd_on hI0.out hb1); have hB1 := hid (hB0.out.trans (hb1.mono hz0.out)); have hz1 := hid (Nat.le_trans hz0.out hb1.size); clear hb1)
    | (go_at_call 67; refine (bWS_any b b _ t0 W1 hI1.out (by have := hts'.out; show 0 + t0.size ≤ _; omega) hz1.out).mono ?_; rintro e W2 ⟨rfl, hA, hb2⟩; have hA2 := hid hA; have hB2 := hid (hB1.out.trans hb2); have hz2 := hid (Nat.le_trans hz1.out hb2.size); clear hA hb2)
    | fail)
  go_loopw [16] (fun ix wr => ∃ i : Nat, i ≤ n ∧ ix = .int .i64 (i : Int) ∧ BdAt wr b b (Lib.byteCells (t0.data.toList ++ (hs.take i).flatten)) ∧ Below b w wr ∧ b ≤ wr.heap.size) (fun ix _ => n - (intOf ix).toNat)
  case atStart => exact ⟨0, Nat.zero_le _, rfl, by rw [List.take_zero, List.flatten_nil, List.append_nil]; exact hA2.out, hB2.out, hz2.out⟩
  case round =>
    obtain ⟨i, hi, rfl, hA, hB, hz⟩ := hrel
    obtain ⟨W10, rfl⟩ : ∃ V, V = wr := ⟨_, rfl⟩
    have hA10 := hid hA
    have hB10 := hid hB
    have hz10 := hid hz
    clear hA hB hz hA2 hB2 hz2 hI0 hB0 hz0 hW0' hU8 hsum ht0
    by_cases hlt : i < n
    · have hlt' : (i : Int) < (n : Int) := by omega
      have s3 : (0 : Int) ≤ (i : Int) := by omega
      have hiw := IntWalk.i64_in ((i : Int) + 1) (by have := hn'.out; omega)
      obtain ⟨p, x, rfl, hpb, -, hix, hx32, hcx⟩ := (hH'.out.below hB10.out).get hlt
      have hcx' := hid hcx
      have hC := hid (hash_cells x hx32)
      have hC2 := hid (show (Try.prog.info? 33).map (·.size) = some (byteCells x).length from by have := hC.out.size; rwa [List.size_toArray] at this)
      have hnx := hid (flat_next hix)
      have hxl := hid hx32
      clear hcx hpb hix hx32
      go_wp2_with (first
        | ((with_reducible refine at_slot (some 19) ?_); refine wpList_load_any rfl 33 (.tmp 18) rfl (p.add (i * 32)) rfl (byteCells x) _ (by exact hcx'.out) Try.underlying33 rfl (by exact hC2.out) ?_)
        | ((with_reducible refine at_slot (some 7) ?_); refine wpList_run rfl (.pointer (some ⟨W10.heap.size, 0, none⟩)) (W10.alloc (.cells z32 33)) (by kernel_rfl) ?_)
        | ((with_reducible refine at_slot none ?_); refine wpList_store_mid rfl 33 (.tmp 7) (.tmp 19) rfl W10.heap.size 0 (byteCells x).toArray rfl rfl (by exact hC.out.there W10) (by exact hC.out.size) (by exact hC.out.one) ?_; generalize hW : World.setCells _ _ _ _ = W11; obtain ⟨hN, hb⟩ := hC.out.new hW; have hN11 := hid hN; have hA11 := hid (bd_used hA10.out hb); have hB11 := hid (hB10.out.trans (hb.mono hz10.out)); have hz11 := hid (Nat.le_trans hz10.out hb.size); clear hN hb hW hA10 hB10 hz10)
        | (go_at_call 69; refine (bWrite_any b b _ ⟨W10.heap.size, 0, none⟩ 32 32 (byteCells x) W11 hA11.out (at_holds hN11.out (by rw [hC.out.len])) (fun u hu => byteCells_one x u hu) (by rw [show ∀ l, (Lib.byteCells l).length = l.length from fun l => List.length_map ..]; have := hfl.out i; omega) hz11.out).mono ?_; rintro e W12 ⟨rfl, hA, hb⟩; have hA12 := hid hA; have hB12 := hid (hB11.out.trans hb); have hz12 := hid (Nat.le_trans hz11.out hb.size); clear hA hb hA11 hB11 hz11)
        | fail)
      go_roundw
      case rel => exact ⟨i + 1, by omega, by go_num, by rw [hnx.out, ← List.append_assoc, ← bd_more]; exact hA12.out, hB12.out, hz12.out⟩
      case measure => simp [intOf]; omega
    · obtain rfl : i = n := by omega
      have hlt' : ¬ (i : Int) < (i : Int) := by omega
      have hta := hid (show hs.take i = hs from List.take_of_length_le (by rw [hlen.out]; exact Nat.le_refl _))
      go_wp2_with (go_at_call 70; refine (Try.Builder_String_any b b _ W10 (.inr hA10.out) hz10.out).mono ?_; rintro e W11 ⟨rfl, hb⟩; have hB11 := hid (hB10.out.trans hb); clear hb)
      go_ret
      exact ⟨by rw [hfin.out, hta.out]; rfl, by rw [hb'.out]; exact hB11.out⟩
/-- Where Build keeps its objects: a cell that holds a row of texts. -/
structure ObsAt (w : World) (c5 B : Nat) (A : Option Addr) (k c : Nat) (xs : List ByteArray) : Prop where
  cell : Holds w c5 50 [.slice A k c]
  row : w.ownsRow B 9 1 (.slice A k c) k (strs xs)
theorem ObsAt.below {w w' : World} {c5 B k c : Nat} {A : Option Addr} {xs : List ByteArray} (h : ObsAt w c5 B A k c xs) (hb : Below w.heap.size w w') : ObsAt w' c5 B A k c xs := ⟨h.cell.below hb h.cell.lt, rown_onF h.row hb⟩
theorem ObsAt.ne {w : World} {c5 B k c : Nat} {A : Option Addr} {xs : List ByteArray} (h : ObsAt w c5 B A k c xs) : (Value.slice A k c).ownBlock ≠ some c5 := fun e => own_neF h.row e h.cell (by decide) rfl
theorem put_mid {w W0 W1 W2 : World} {c5 B k c m c2 g : Nat} {A A2 : Option Addr} {xs ys : List ByteArray} {zs : List Value} (hO0 : ObsAt W0 c5 B A k c xs) (hZ0 : Holds W0 g 33 zs) (hB0 : Below w.heap.size w W0) (hg : w.heap.size ≤ g) (hc : c5 < w.heap.size)
    (hrow : W1.ownsRow B 9 1 (.slice A2 m c2) m (strs ys)) (hgr : W0.grownBy W1 (Value.slice A k c).ownBlock) (e : W1.setCell ⟨c5, 0, none⟩ (.slice A2 m c2) = W2) :
    ObsAt W2 c5 B A2 m c2 ys ∧ Holds W2 g 33 zs ∧ TurnS (fun q => q = c5 ∨ (Value.slice A k c).ownBlock = some q) w W2 := by
  have hc1 := hO0.cell.grown hgr (fun e => hO0.ne e.symm)
  have hz1 := hZ0.grown hgr (fun e => own_neF hO0.row e.symm hZ0 (by decide) rfl)
  have hne : ∀ q, (Value.slice A2 m c2).ownBlock = some q → q ≠ c5 := fun q hq => own_neF hrow hq hc1 (by decide)
  subst e
  refine ⟨⟨hc1.set 0 _, rown_block hrow fun q hq => heap_setCell_other _ _ _ _ (hne q hq)⟩, hz1.far ⟨c5, 0, none⟩ (by show g ≠ c5; omega) _, ⟨hgr.os.trans hB0.os, hgr.tape.trans hB0.tape, hgr.output.trans hB0.output, by rw [World.size_setCell]; exact Nat.le_trans hB0.size hgr.size, fun q hq hs => ?_⟩⟩
  refine (heap_setCell_other _ _ _ _ (fun e => hs (.inl e))).trans ?_
  exact (hgr.block q (Nat.lt_of_lt_of_le hq hB0.size) (fun e => hs (.inr e.symm))).trans (hB0.block q hq)
theorem put_end {w W4 W5 : World} {S : Nat → Prop} {c5 B m c2 g o : Nat} {A2 : Option Addr} {ys : List ByteArray} {zs vs : List Value} (hO : ObsAt W4 c5 B A2 m c2 ys) (hT : TurnS S w W4) (hZ : Holds W4 g 33 zs) (hg : w.heap.size ≤ g) (hc : c5 < w.heap.size) (e : W4.setCells g o vs = W5) : ObsAt W5 c5 B A2 m c2 ys ∧ TurnS S w W5 := by
  have hbq := below_setCells (Below.refl g W4) g o vs (Nat.le_refl _)
  subst e
  refine ⟨⟨hO.cell.fars g o vs (by omega), rown_block hO.row fun q hq => cells_far _ _ _ _ _ (fun e => own_neF hO.row hq hZ (by decide) e)⟩, ⟨hbq.os.trans hT.os, hbq.tape.trans hT.tape, hbq.output.trans hT.output, Nat.le_trans hT.size hbq.size, fun q hq hs => (hbq.block q (by omega)).trans (hT.block q hq hs)⟩⟩
theorem Fresh.low {w w' : World} {r r' : Option Nat} (h : Fresh w' r r') (hb : Below w.heap.size w w') : Fresh w r r' := h.imp id (fun ⟨k, e, hk⟩ => ⟨k, e, Nat.le_trans hb.size hk⟩)
set_option maxRecDepth 100000 in
set_option maxHeartbeats 1000000 in
theorem put_any (c5 B : Nat) (A : Option Addr) (k c : Nat) (xs : List ByteArray) (d : ByteArray) (hd : d.size ≤ 65536) (hk : k ≤ 1000000) (w : World) (h : ObsAt w c5 B A k c xs) (hB : B ≤ w.heap.size) :
    Calls Try.prog 39 #[.string d, .pointer (some ⟨c5, 0, none⟩)] w fun e w' => e = .returned (.agg (byteCells (obHash d)).toArray) ∧ ∃ A' c', ObsAt w' c5 B A' (k + 1) c' (xs ++ [d]) ∧ Fresh w (Value.slice A k c).ownBlock (Value.slice A' (k + 1) c').ownBlock ∧ TurnS (fun q => q = c5 ∨ (Value.slice A k c).ownBlock = some q) w w' := by
  obtain ⟨l, hl⟩ : ∃ l, obHash d = l := ⟨_, rfl⟩
  have l32 : l.length = 32 := by rw [← hl]; exact obHash_len d
  have hSh := hid (fun V => shHash_yes hd V)
  rw [hl] at hSh
  have hC := hid (hash_cells l l32)
  have hC2 := hid (show (Try.prog.info? 33).map (·.size) = some (byteCells l).length from by have := hC.out.size; rwa [List.size_toArray] at this)
  obtain ⟨g, hg⟩ : ∃ g, w.heap.size = g := ⟨_, rfl⟩
  obtain ⟨W0, hW0⟩ : ∃ W0, w.alloc (.cells z32 33) = W0 := ⟨_, rfl⟩
  have hZ0 := hid (show Holds W0 g 33 z32.toList from by rw [← hW0, ← hg]; exact Holds.new _ _ _)
  have hb0 : Below w.heap.size w W0 := by rw [← hW0]; exact (Below.refl _ _).alloc (Nat.le_refl _) _
  have hO0 := hid (h.below hb0)
  have hB0 := hid hb0
  have hz0 := hid (Nat.le_trans hB hb0.size)
  have hW0' := hid hW0
  have hg' := hid hg
  have hl' := hid hl
  have hk' := hid hk
  have hcl := hid (show c5 < w.heap.size from h.cell.lt)
  have hown := hid (fun q => h.row.lt q)
  clear hW0 hl l32 h hd hb0 hg hk hB
  have cc5 := hO0.out.cell.cO 0 _ rfl
  obtain ⟨m, hm⟩ : ∃ m, k + 1 = m := ⟨_, rfl⟩
  have hm' := hid hm
  rw [hm]
  clear hm
  go_enter Try.func39, Try.ntmps39
  go_wp2_with (first
    | ((with_reducible refine at_slot (some 3) ?_); refine wpList_run rfl (.pointer (some ⟨g, 0, none⟩)) (w.alloc (.cells z32 33)) (by rw [← hg'.out]; kernel_rfl) ?_; rw [hW0'.out])
    | ((with_reducible refine at_slot (some 8) ?_); refine wpList_pushTextF rfl rfl (.tmp 7) (.tmp 6) (.tmp 8) rfl rfl B A k c xs d rfl rfl rfl (by have := hk'.out; omega) (by exact hO0.out.row) (by exact hz0.out) m hm'.out ?_; intro A2 c2 W1 hrow hgr hfr; have hc1 := hO0.out.cell.grown hgr (fun e => hO0.out.ne e.symm); have hrow1 := hid hrow; have hgr1 := hid hgr; have hfr1 := hid hfr; have hc1' := hid hc1; clear cc5 hrow hgr hfr; have cc5 := hc1.cO 0 _ rfl; have f5 := hc1.frozen 0; clear hc1; obtain ⟨W2, hW2⟩ : ∃ V, W1.setCell ⟨c5, 0, none⟩ (.slice A2 m c2) = V := ⟨_, rfl⟩; have hW2' := hid hW2; have hm2 := put_mid hO0.out hZ0.out hB0.out (Nat.le_of_eq hg'.out) hcl.out hrow1.out hgr1.out hW2; have hO2 := hid hm2.1; have hZ2 := hid hm2.2.1; have hT2 := hid hm2.2.2; clear hW2 hm2)
    | (go_at_call 40; rw [hW2'.out]; refine (hSh.out W2).mono ?_; rintro e W3 ⟨rfl, hb⟩; have hO3 := hid (hO2.out.below hb); have hZ3 := hid (hZ2.out.below hb hZ2.out.lt); have hT3 := hid (hT2.out.up hb); clear hb cc5 f5 hO2 hZ2 hT2)
    | ((with_reducible refine at_slot (some 4) ?_); refine wpList_run rfl (.pointer (some ⟨W3.heap.size, 0, none⟩)) (W3.alloc (.cells z32 33)) (by kernel_rfl) ?_)
    | ((with_reducible refine at_slot none ?_); refine wpList_store_mid rfl 33 (.tmp 4) (.tmp 13) rfl W3.heap.size 0 (byteCells l).toArray rfl rfl (by exact hC.out.there W3) (by exact hC.out.size) (by exact hC.out.one) ?_; generalize hW : World.setCells _ _ _ _ = W4; obtain ⟨hN, hb⟩ := hC.out.new hW; have hX4 := hid hN; have hO4 := hid (hO3.out.below hb); have hZ4 := hid (hZ3.out.below hb hZ3.out.lt); have hT4 := hid (hT3.out.up hb); clear hN hb hW hO3 hZ3 hT3)
    | ((with_reducible refine at_slot (some 15) ?_); refine wpList_load_mid rfl 33 (.tmp 4) rfl W3.heap.size 0 rfl (byteCells l) _ (by exact h_all hX4.out) Try.underlying33 rfl (by exact hC2.out) ?_)
    | ((with_reducible refine at_slot none ?_); refine wpList_store_mid rfl 33 (.tmp 3) (.tmp 15) rfl g 0 (byteCells l).toArray rfl rfl (by exact hZ4.out.there 0 _ (by rw [List.size_toArray, hC.out.len]; decide)) (by exact hC.out.size) (by exact hC.out.one) ?_; generalize hW : World.setCells _ _ _ _ = W5; have hZ5 := hid (Holds.over (cs := byteCells l) hZ4.out (by rw [hC.out.len]; rfl) hW); have hf5 := hid (put_end hO4.out hT4.out hZ4.out (Nat.le_of_eq hg'.out) hcl.out hW); clear hW)
    | fail)
  exact bodyPost_ret (results_cell_row rfl _ _ g 33 _ (0, 0) _ rfl hZ5.out Try.underlying33 rfl (by exact hC.out.size)) rfl ⟨by rw [hl'.out], A2, c2, hf5.out.1, hfr1.out.low hB0.out, hf5.out.2⟩

end Go.Proofs.Ytpjfhbmegabafaa
