/- Layer 12, the program's side: the hashes that stand in texts. -/
import Derived.Test.YtpjfhbmegabafaaLFtAs
import Derived.Test.YtpjfhbmegabafaaLFtGc
import Derived.Test.YtpjfhbmegabafaaLFtE
import Derived.OrdersIn
namespace Go.Proofs.Ytpjfhbmegabafaa
open Go.RowKit
open Go.Lib (strCells strCells_length strCells_oneCell)
attribute [local irreducible] Sha.compress Sha.blocks Sha.sha Sha.pad
attribute [local go_sem] Oper.semAt_some

/-- A text's pieces of 32 bytes. -/
def pc (x : ByteArray) (j : Nat) : List UInt8 := (x.data.toList.drop (j * 32)).take 32
def pcs (x : ByteArray) : List (List UInt8) := (List.range (cutN 32 x.size)).map (pc x)
def pcsL (xs : List ByteArray) : List (List UInt8) := xs.flatMap pcs
def offL (xs : List ByteArray) (k : Nat) : Nat := (pcsL (xs.take k)).length
theorem pcs_len (x : ByteArray) : (pcs x).length = cutN 32 x.size := by unfold pcs; rw [List.length_map, List.length_range]
theorem offL_next {xs : List ByteArray} {k : Nat} {x : ByteArray} (h : xs[k]? = some x) : offL xs (k + 1) = offL xs k + cutN 32 x.size := by
  unfold offL pcsL
  rw [List.take_add_one, h, List.flatMap_append, List.length_append]
  simp [pcs_len]
theorem offL_all {xs : List ByteArray} {n : Nat} (h : xs.length = n) : offL xs n = (pcsL xs).length := by
  unfold offL
  rw [List.take_of_length_le (by omega)]
theorem pcsL_split {xs : List ByteArray} {k : Nat} {x : ByteArray} (h : xs[k]? = some x) : pcsL xs = pcsL (xs.take k) ++ (pcs x ++ pcsL (xs.drop (k + 1))) := by
  obtain ⟨hk, e⟩ := List.getElem?_eq_some_iff.1 h
  conv => lhs; rw [← List.take_append_drop k xs, List.drop_eq_getElem_cons hk, e]
  unfold pcsL
  rw [List.flatMap_append, List.flatMap_cons]
theorem pcsL_at {xs : List ByteArray} {k j : Nat} {x : ByteArray} (h : xs[k]? = some x) (hj : j < cutN 32 x.size) : (pcsL xs).getD (offL xs k + j) z0 = pc x j := by
  rw [pcsL_split h, List.getD_eq_getElem?_getD, List.getElem?_append_right (by unfold offL; omega), show offL xs k + j - (pcsL (xs.take k)).length = j from by unfold offL; omega, List.getElem?_append_left (by rw [pcs_len]; exact hj)]
  unfold pcs
  rw [List.getElem?_map, List.getElem?_range hj]
  rfl
theorem off_lt {xs : List ByteArray} {k j : Nat} {x : ByteArray} (h : xs[k]? = some x) (hj : j < cutN 32 x.size) : offL xs k + j < (pcsL xs).length := by
  rw [pcsL_split h, List.length_append, List.length_append, pcs_len]
  unfold offL
  omega
theorem cut32 {m j : Nat} (h : m % 32 = 0) (hj : j < cutN 32 m) : j * 32 + 32 ≤ m := by
  have := (cutN_lt (len := m) (i := j) (n := 32) (by decide)).1 hj
  omega
theorem pc_len {x : ByteArray} {j : Nat} (h : x.size % 32 = 0) (hj : j < cutN 32 x.size) : (pc x j).length = 32 := by
  have := cut32 h hj
  unfold pc
  rw [List.length_take, List.length_drop, data_length]
  omega
theorem pc_range {W : World} {g j : Nat} {x : ByteArray} (h : TextAt W g x) : W.rangeAt g (j * 32) (byteCells (pc x j)) := by
  obtain ⟨cs, t, f, h1, h2⟩ := h
  intro i v hi
  rw [cell_of_row W g _ cs t f h1]
  refine h2 _ _ ?_
  unfold strCells
  unfold byteCells pc at hi
  rw [List.getElem?_map] at hi ⊢
  have hlt : i < 32 := by
    obtain ⟨hi2, _⟩ := List.getElem?_eq_some_iff.1 (Option.map_eq_some_iff.1 hi).choose_spec.1
    rw [List.length_take] at hi2
    omega
  rw [List.getElem?_take_of_lt hlt, List.getElem?_drop] at hi
  exact hi

theorem KeepsO.heap {B : Nat} {o : Nat → Prop} {V Vd V2 : World} (e : Vd.heap = V.heap) (h : KeepsO B o Vd V2) : KeepsO B o V V2 := by unfold KeepsO at *; rw [e] at h; exact h
theorem KeepX.heap {X : Nat → Prop} {V Vd V2 : World} (e : Vd.heap = V.heap) (h : KeepX X Vd V2) : KeepX X V V2 := by unfold KeepX at *; rw [e] at h; exact h
theorem TextAt.keep {w w' : World} {g : Nat} {s : ByteArray} {X : Nat → Prop} (h : TextAt w g s) (hk : KeepX X w w') (hx : ¬ X g) : TextAt w' g s :=
  let ⟨cs, t, f, h1, h2⟩ := h
  ⟨cs, t, f, hk.block h1 hx, h2⟩
/-- The marks of loops that are over. -/
def marksOf (Ds : List Nat) : List Deferred := Ds.map fun D => { target := .collected D, args := #[] }
structure MarksAt (B : Nat) (Ds : List Nat) (W : World) : Prop where
  nodup : Ds.Nodup
  at_ : ∀ D ∈ Ds, B ≤ D ∧ W.heap[D]? = some (.deferred (some []))
theorem MarksAt.lt {B : Nat} {Ds : List Nat} {W : World} (h : MarksAt B Ds W) : ∀ D ∈ Ds, D < W.heap.size := fun D hD => (Array.getElem?_eq_some_iff.1 (h.at_ D hD).2).1
theorem leaves_marks {F : Fence} {n : Nat} {P : Program} {fn : Func} {tmps : Array Value} {R : Ending → World → Prop} (T : World → Prop) (Qd : Nat → Prop) (hT : ∀ W D, Qd D → T W → W.heap[D]? = some (.deferred (some [])) → T (W.putObj D (.deferred none)))
    (hR : ∀ W, T W → LeavesIn F n P fn tmps R [] .returning W) : ∀ (Ds : List Nat) (W : World), Ds.Nodup → (∀ D ∈ Ds, Qd D ∧ W.heap[D]? = some (.deferred (some []))) → T W → LeavesInM F n P fn tmps R (marksOf Ds) .returning W
  | [], W, _, _, hW => hR W hW
  | D :: Ds, W, hn, hD, hW => by
    obtain ⟨h1, h2⟩ := hD D (List.mem_cons_self ..)
    rw [List.nodup_cons] at hn
    refine ⟨by simp, .inl ⟨D, _, rfl, run_takeDeferred h2, leaves_marks T Qd hT hR Ds _ hn.2 (fun E hE => ?_) (hT W D h1 hW h2)⟩⟩
    obtain ⟨h3, h4⟩ := hD E (List.mem_cons_of_mem _ hE)
    have hne : D ≠ E := fun e => hn.1 (e ▸ hE)
    exact ⟨h3, (World.putObj_heap_other (by first | exact hne | exact hne.symm)).trans h4⟩
theorem wpListIn_convert {F : Fence} {n : Nat} {P : Program} {ops : Array Oper} {rest : List Oper} {Q : Exit → Act → World → Prop} {a : Act} {w : World} {o : Oper} (hgd : o.guard = none) (src dst : TypeId) (x : Operand) (ho : o.op = .convert src dst x) (v u : Value) (w' : World) (hx : a.eval x = v) (hrun : (convert src dst v).run P w = .ok u w') (h : wpListIn F n P ops Q rest (a.put o.dst u) w') : wpListIn F n P ops Q (o :: rest) a w :=
  wpListIn_run hgd (fun c e => by rw [ho] at e; cases e) (by simp [Oper.about, ho]) u w' (by unfold execOp; simp only [ho, hx, Sem.run_bind, hrun, Result.andThen_ok, Sem.run_pure]) h
theorem pureIn {F : Fence} {n : Nat} {P : Program} {ops : Array Oper} {Q : Exit → Act → World → Prop} {K : Act → World → Prop} {a : Act} {w : World} {i : Nat} {o : Oper} (v : Value) (hi : ops[i]? = some o) (hg : o.guard = none) (hd : ∀ c, o.op ≠ .defer c) (ha : o.about P w a.eval = none)
    (hrun : (execOp a.eval o).run P w = .ok (.value v) w) (h : K (a.put o.dst v) w) : wpOpIn F n P ops Q i K a w := by
  refine wpOpIn_step hi fun K' hK => ?_
  rw [if_pos (by simp [Region.wanted, hg])]
  unfold Oper.wpIn
  refine ⟨fun f hf => (by rw [ha] at hf; cases hf), ?_⟩
  rw [Oper.semAt_plain F _ _ hd, hrun]
  exact hK _ _ h

theorem loadIn {F : Fence} {n : Nat} {P : Program} {ops : Array Oper} {Q : Exit → Act → World → Prop} {K : Act → World → Prop} {a : Act} {w : World} {i : Nat} {o : Oper} (ty : TypeId) (x : Operand) (hi : ops[i]? = some o) (hg : o.guard = none) (ho : o.op = .load ty x) (p : Addr) (v : Value) (hx : a.eval x = .pointer (some p)) (hrun : (loadVar ty p).run P w = .ok v w) (h : K (a.put o.dst v) w) : wpOpIn F n P ops Q i K a w :=
  pureIn v hi hg (fun c e => by rw [ho] at e; cases e) (by simp [Oper.about, ho]) (by unfold execOp; simp only [ho, hx, Instr.loadAt, Instr.sureAddr, Sem.run_bind, Sem.run_pure, Result.andThen_ok, hrun]) h
set_option maxRecDepth 100000 in
theorem hashes_any (A : Option Addr) (n c : Nat) (w : World) : Calls Try.prog 74 #[.slice A n c] w fun e w' => e = .returned (.func (.func 89) #[] #[.pointer (some ⟨w.heap.size, 0, none⟩)]) ∧ w' = w.alloc (.cells #[.slice A n c] 50) := by
  go_enter Try.func74, Try.ntmps74
  go_wp2_with (first
    | ((with_reducible refine at_slot (some 1) ?_); refine wpList_run rfl (.pointer (some ⟨w.heap.size, 0, none⟩)) (w.alloc (.cells #[.slice A n c] 50)) (by kernel_rfl) ?_)
    | fail)
  go_ret
  exact ⟨rfl, rfl⟩

/-- What the iterator holds ahead of a text. -/
structure HsAt (w0 : Nat) (b n : Nat) (xs : List ByteArray) (J : List Nat → (Nat → Prop) → World → Prop) (pre : List Nat) (o : Nat → Prop) (Ds : List Nat) (l : Nat) (W : World) : Prop where
  j : J pre o W
  yb : Holds W w0 168 [.func (.yield l) #[] #[]]
  row : 0 < n → TxtsAt W b xs
  marks : MarksAt (w0 + 1) Ds W
  own : ∀ q, o q → w0 + 1 ≤ q ∧ q ∉ Ds ∧ q < W.heap.size
  size : w0 + 1 ≤ W.heap.size
section
variable {w0 b n l : Nat} {xs : List ByteArray} {J : List Nat → (Nat → Prop) → World → Prop} {pre : List Nat} {o : Nat → Prop} {Ds : List Nat} {W W' : World}
theorem HsAt.grown {row : Option Nat} (h : HsAt w0 b n xs J pre o Ds l W) (hJ : ∀ s o A B row, J s o A → A.grownBy B row → (∀ r, row = some r → w0 ≤ r ∧ ¬ o r) → J s o B) (hb : 0 < n → b < w0) (hg : W.grownBy W' row) (hr : ∀ r, row = some r → w0 + 1 ≤ r ∧ ¬ o r ∧ r ∉ Ds) : HsAt w0 b n xs J pre o Ds l W' := by
  refine ⟨hJ _ _ _ _ row h.j hg (fun r e => by have := hr r e; exact ⟨by omega, this.2.1⟩), h.yb.grown hg (fun e => by have := (hr _ e.symm).1; omega), fun hn => (h.row hn).on (hg.block b (h.row hn).lt (fun e => by have := (hr _ e.symm).1; have := hb hn; omega)), ⟨h.marks.nodup, fun D hD => ?_⟩, fun q hq => ⟨(h.own q hq).1, (h.own q hq).2.1, Nat.lt_of_lt_of_le (h.own q hq).2.2 hg.size⟩, Nat.le_trans h.size hg.size⟩
  obtain ⟨h1, h2⟩ := h.marks.at_ D hD
  exact ⟨h1, (hg.block D (h.marks.lt D hD) (fun e => (hr _ e.symm).2.2 hD)).trans h2⟩
theorem HsAt.below (h : HsAt w0 b n xs J pre o Ds l W) (hJ : ∀ s o A B row, J s o A → A.grownBy B row → (∀ r, row = some r → w0 ≤ r ∧ ¬ o r) → J s o B) (hb : 0 < n → b < w0) (hg : Below W.heap.size W W') : HsAt w0 b n xs J pre o Ds l W' := h.grown hJ hb (gr_of hg none) (fun _ e => nomatch e)
theorem HsAt.round {X : Nat → Prop} {pre' : List Nat} {o' : Nat → Prop} (h : HsAt w0 b n xs J pre o Ds l W) (hX : ∀ k, X k → k < w0) (hb : 0 < n → b < w0 ∧ ¬ X b) (hF : FreshP W o o') (hj : J pre' o' W') (hK : KeepX (fun k => X k ∨ o k) W W') (hO : KeepsO w0 o W W') (hJo : ∀ q, o' q → q < W'.heap.size) : HsAt w0 b n xs J pre' o' Ds l W' := by
  refine ⟨hj, hK.holds h.yb (fun e => e.elim (fun e => by have := hX _ e; omega) (fun e => by have := (h.own _ e).1; omega)), fun hn => (h.row hn).keep hK (fun e => e.elim (hb hn).2 (fun e => by have := (h.own _ e).1; have := (hb hn).1; omega)), ⟨h.marks.nodup, fun D hD => ?_⟩, fun q hq => ?_, Nat.le_trans h.size hK.1⟩
  · obtain ⟨h1, h2⟩ := h.marks.at_ D hD
    exact ⟨h1, hO.2 D _ (by omega) (fun e => (h.own D e).2.1 hD) h2 rfl⟩
  · rcases hF q hq with h3 | h3
    · exact ⟨(h.own q h3).1, (h.own q h3).2.1, hJo q hq⟩
    · exact ⟨Nat.le_trans h.size h3, fun hD => by have := h.marks.lt q hD; omega, hJo q hq⟩
end

set_option maxRecDepth 100000 in
set_option maxHeartbeats 1000000 in
theorem hashes_all (m : Nat) (X : Nat → Prop) (c1 b : Nat) (A : Option Addr) (n c : Nat) (xs : List ByteArray) (hlen : xs.length = n) (hA : 0 < n → A = some ⟨b, 0, none⟩) (hn : n ≤ 100000) (h32 : ∀ x ∈ xs, x.size % 32 = 0 ∧ x.size ≤ 100000) (x1 : ¬ X c1) (x2 : 0 < n → ¬ X b) (w : World) (hX : ∀ k, X k → k < w.heap.size)
    (h1 : Holds w c1 50 [.slice A n c]) (h2 : 0 < n → TxtsAt w b xs) :
    SeqOwnS Fence.wide (m + 2) Try.prog 89 #[.pointer (some ⟨c1, 0, none⟩)] (fun i : Nat => #[.agg (byteCells ((pcsL xs).getD i z0)).toArray]) (fun _ => False) (fun o => KeepX (fun k => X k ∨ o k)) (fun l => l = List.range (pcsL xs).length) (fun pre x => pre = List.range x ∧ x < (pcsL xs).length) w := fun l J Jx W hW hJ hJx hJo hY hj0 => by
  obtain ⟨w0, hw0⟩ : ∃ w0, W.heap.size = w0 := ⟨_, rfl⟩
  obtain ⟨Wy, hWy⟩ : ∃ V, W.alloc (.cells #[.func (.yield l) #[] #[]] 168) = V := ⟨_, rfl⟩
  have hb0 : Below W.heap.size W Wy := by rw [← hWy]; exact (Below.refl _ _).alloc (Nat.le_refl _) _
  have hHy : Holds Wy w0 168 [.func (.yield l) #[] #[]] := by rw [← hWy, ← hw0]; exact Holds.new W 168 #[.func (.yield l) #[] #[]]
  have hsy : Wy.heap.size = w0 + 1 := by rw [← hWy, World.size_alloc, hw0]
  have hX' := hid (fun k (hx : X k) => show k < w0 from by have := hX k hx; have := hW.size; omega)
  have c1W := hid (((h1.below hW h1.lt).below hb0 (by have := h1.lt; have := hW.size; omega)).cO 0 _ rfl)
  have hbw := hid (fun h => show b < w0 from by have := (h2 h).lt; have := hW.size; omega)
  have hJ2 := hid (fun s o A B row (hj : J s o A) (hg : A.grownBy B row) (hr : ∀ r, row = some r → w0 ≤ r ∧ ¬ o r) => hJ s o A B row hj hg (fun r e => .inl (by rw [hw0]; exact hr r e)))
  have hJx2 := hid (fun A B row (hj : Jx A) (hg : A.grownBy B row) (hr : ∀ r, row = some r → w0 ≤ r) => hJx A B row hj hg (fun r e => .inl (by rw [hw0]; exact hr r e)))
  have hJo' := hid (fun s o A k (hj : J s o A) (hk : o k) => show w0 ≤ k ∧ k < A.heap.size from by have := hJo s o A k hj hk; rw [hw0] at this; exact this)
  have hYy := hid hY
  have h0 := hid (show HsAt w0 b n xs J (List.range (offL xs 0)) (fun _ => False) [] l Wy from ⟨hJ _ _ _ _ none hj0 (gr_of hb0 none) (fun r e => nomatch e), hHy, fun h => ((h2 h).on (hW.block b (h2 h).lt)).on (hb0.block b (by have := (h2 h).lt; have := hW.size; omega)), ⟨List.nodup_nil, fun _ h => nomatch h⟩, fun q h => h.elim, Nat.le_of_eq hsy.symm⟩)
  have hA' := hid hA
  have hn' := hid hn
  have hl' := hid hlen
  have h32' := hid h32
  have x1' := hid x1
  have x2' := hid x2
  have hWy' := hid hWy
  have hw0' := hid hw0
  clear hA h2 hY hJ hJx hJo hj0 hW h1 x1 x2 hn hlen h32 hX hb0 hHy hsy hWy hw0
  refine callsIn_of_wp_marks Try.func89 rfl trivial ?_ rfl
  simp only [Try.ntmps89, List.size_toArray, List.length_cons, List.length_nil, Nat.reduceAdd, Nat.reduceSub, Array.replicate_succ, Array.replicate_zero, List.push_toArray, List.append_toArray, List.nil_append, List.cons_append]
  gi_wp2_with (first
    | ((with_reducible refine at_slotIn (some 2) ?_); refine wpListIn_run rfl (fun c e => by cases e) rfl (.pointer (some ⟨w0, 0, none⟩)) (W.alloc (.cells #[.func (.yield l) #[] #[]] 168)) (by rw [← hw0'.out]; kernel_rfl) ?_; rw [hWy'.out]; have cc1 := c1W.out)
    | fail)
  have hrun2 := fun (W : World) (x : ByteArray) (hx : x.size ≤ 100000) => run_text_row (P := Try.prog) W 9 51 5 x Try.underlying9 Try.underlying51 Try.underlying5 (by omega)
  have hrun2' := hid hrun2
  clear hrun2 cc1
  refine wpIn_loop (fun a' wr => ∃ (k : Nat) (o : Nat → Prop) (Ds : List Nat) (u4 u5 u9 u10 u11 u12 u13 u14 u15 u16 u17 u18 u19 u20 u21 u22 : Value), (k ≤ n ∧ HsAt w0 b n xs J (List.range (offL xs k)) o Ds l wr) ∧ a' = { tmps := #[.func (.yield l) #[] #[], .pointer (some ⟨c1, 0, none⟩), .pointer (some ⟨w0, 0, none⟩), undef, u4, u5, .slice A n c, .int .i64 (n : Int), .int .i64 (k : Int), u9, u10, u11, u12, u13, u14, u15, u16, u17, u18, u19, u20, u21, u22], defers := marksOf Ds }) (fun a' _ => n - (intOf (a'.tmps.getD 8 undef)).toNat)
    ⟨0, _, [], undef, undef, undef, undef, undef, undef, undef, undef, undef, undef, undef, undef, undef, undef, undef, undef, ⟨Nat.zero_le _, h0.out⟩, rfl⟩ ?_
  rintro a' Wa ⟨k, o, Ds, u4, u5, u9, u10, u11, u12, u13, u14, u15, u16, u17, u18, u19, u20, u21, u22, ⟨hkn, hS⟩, rfl⟩
  have hSa := hid hS
  clear hS h0
  by_cases hlt : k < n
  · have hki : (k : Int) < (n : Int) := by omega
    have hk0 : (0 : Int) ≤ (k : Int) := by omega
    obtain rfl := hA'.out (by omega)
    have hxk := List.getElem?_eq_getElem (l := xs) (i := k) (by have := hl'.out; omega)
    obtain ⟨x, hx⟩ : ∃ x, xs[k]'(by have := hl'.out; omega) = x := ⟨_, rfl⟩
    rw [hx] at hxk
    have hxk' := hid hxk
    have hx32 := hid (h32'.out x (List.mem_of_getElem? hxk))
    have hcell := (hSa.out.row (by omega)).cell hxk
    have u2 := IntWalk.i64_in ((k : Int) + 1) (by have := hn'.out; omega)
    obtain ⟨cp, W1, hrun, hT, hc1, hc2, hb, hs⟩ := hrun2'.out Wa x hx32.out.2
    have hcc := hid (show x.size ≤ cp ∧ cp ≤ 9223372036854775807 from ⟨hc1, hc2⟩)
    have hS1 := hid (hSa.out.below hJ2.out hbw.out hb)
    have hs1 := hid hs
    have hT' := hid hT
    have hrun' := hid hrun
    clear hxk hx hT hc1 hc2 hb hs hrun
    gi_wp2_with (first
      | ((with_reducible refine at_slotIn (some 13) ?_); refine wpListIn_convert rfl 9 51 (.tmp 12) rfl _ _ W1 rfl (by exact hrun'.out) ?_)
      | fail)
    refine ⟨trivial, callsIn_wide.2 ((cutB_any _ _ _ 32 W1).mono ?_)⟩
    rintro e W2 ⟨rfl, hi, hnn, hb, hs⟩
    have hS2 := hid (hS1.out.below hJ2.out hbw.out hb)
    have hT2 := hid (hT'.out.below hb)
    have hs2 := hid hs
    have hbelow := hid hb
    have hfar := hid (fun (o' : Nat → Prop) (ho : ∀ q, o' q → o q ∨ W2.heap.size + 2 ≤ q) r (hr : (W2.heap.size ≤ r ∧ ¬ (o' r ∧ W2.heap.size + 2 ≤ r)) ∨ r = W1.heap.size) => show w0 + 1 ≤ r ∧ ¬ o' r ∧ r ∉ Ds ∧ r ≠ Wa.heap.size from by
      have hz := hSa.out.size
      have h1 := hs1.out
      have h2 := hs2.out
      have hlo : Wa.heap.size < r := by rcases hr with h | h <;> omega
      refine ⟨by omega, fun e => ?_, fun e => by have := hSa.out.marks.lt r e; omega, by omega⟩
      rcases ho r e with h | h
      · have := (hSa.out.own r h).2.2
        omega
      · rcases hr with h3 | h3
        · exact h3.2 ⟨e, h⟩
        · omega)
    have hseq := hid (cutB_allS m (fun q => X q ∨ o q) W1.heap.size (W1.heap.size + 1) (some ⟨Wa.heap.size, 0, none⟩) ⟨Wa.heap.size, 0, none⟩ x.size cp 32 (fun _ => rfl) (by decide) (by decide) (by have := hx32.out.2; omega) hcc.out.1 hcc.out.2
      (fun h => h.elim (fun h => by have := hX'.out _ h; have := hSa.out.size; have := hs1.out; omega) (fun h => by have := (hSa.out.own _ h).2.2; have := hs1.out; omega))
      (fun h => h.elim (fun h => by have := hX'.out _ h; have := hSa.out.size; have := hs1.out; omega) (fun h => by have := (hSa.out.own _ h).2.2; have := hs1.out; omega)) W2 hi hnn)
    clear hi hnn hb hs hcell
    gi_wp2_with fail
    refine wpIn_range_ownS rfl (by omega) (gf := 65) (lb := #[.pointer (some ⟨W1.heap.size, 0, none⟩), .pointer (some ⟨W1.heap.size + 1, 0, none⟩)]) rfl trivial (enters_of Try.func65 (by kernel_rfl) rfl)
      hseq.out (Below.refl _ _) (fun _ => rfl) (fun r h => by have := hs2.out; omega) KeepX.trans (fun q W l o o' _ hl ho => KeepX.put W l o o' hl ho)
      (fun pre oi V => ∃ o', oi = (fun q => o' q ∧ W2.heap.size + 2 ≤ q) ∧ (∀ q, o' q → o q ∨ W2.heap.size + 2 ≤ q) ∧ HsAt w0 b n xs J (List.range (offL xs k) ++ pre.map (offL xs k + ·)) o' Ds l V ∧ TextAt V Wa.heap.size x ∧ W2.heap.size ≤ V.heap.size)
      (fun s oi A B row ⟨o', e, h1, h2, h3, h4⟩ hg hr => by
        subst e
        have hf := fun r e => hfar.out o' h1 r (hr r e)
        exact ⟨o', rfl, h1, h2.grown hJ2.out hbw.out hg (fun r e => ⟨(hf r e).1, (hf r e).2.1, (hf r e).2.2.1⟩), h3.on (hg.block _ h3.lt (fun e => (hf _ e.symm).2.2.2 rfl)), Nat.le_trans h4 hg.size⟩)
      (fun s oi A q ⟨o', e, h1, h2, h3, h4⟩ hq => by
        subst e
        exact ⟨hq.2, (h2.own q hq.1).2.2⟩)
      ⟨o, funext fun q => propext ⟨False.elim, fun h => by have := (hSa.out.own q h.1).2.2; have := h.2; have := hs1.out; have := hs2.out; omega⟩, fun q h => .inl h, by rw [List.map_nil, List.append_nil]; exact hS2.out, hT2.out, Nat.le_refl _⟩
      (fun V => Jx V ∧ MarksAt (w0 + 1) Ds V ∧ W2.heap.size ≤ V.heap.size)
      (fun A B row ⟨h1, h2, h3⟩ hg hr => ⟨hJx2.out A B row h1 hg (fun r e => by have := hSa.out.size; have := hs1.out; have := hs2.out; rcases hr r e with h | h <;> omega), ⟨h2.nodup, fun D hD => ⟨(h2.at_ D hD).1, (hg.block D (h2.lt D hD) (fun e => by have := hSa.out.marks.lt D hD; have := hs1.out; have := hs2.out; rcases hr D e.symm with h | h <;> omega)).trans (h2.at_ D hD).2⟩⟩, Nat.le_trans h3 hg.size⟩)
      (fun j a' _ => a' = { tmps := #[.func (.yield l) #[] #[], .pointer (some ⟨c1, 0, none⟩), .pointer (some ⟨w0, 0, none⟩), undef, .string x, .slice (some ⟨Wa.heap.size, j * 32, none⟩) (min 32 (x.size - j * 32)) (cp - j * 32), .slice (some ⟨b, 0, none⟩) n c, .int .i64 (n : Int), .int .i64 (k : Int), .bool true, .pointer (some ⟨b, k, none⟩), .string x, .string x, .slice (some ⟨Wa.heap.size, 0, none⟩) x.size cp, .func (.func 65) #[] #[.pointer (some ⟨W1.heap.size, 0, none⟩), .pointer (some ⟨W1.heap.size + 1, 0, none⟩)], .slice (some ⟨Wa.heap.size, j * 32, none⟩) (min 32 (x.size - j * 32)) (cp - j * 32), u16, u17, u18, u19, u20, u21, u22], defers := [] })
      (fun _ _ _ _ _ hs _ _ => hs) ?assign ?body ?done ?stop
    case assign =>
      rintro l2 pre j oi V K hz hI hK
      gi_wp2_with fail
      exact hK _ _ (KeepsFrom.refl _ _) (KeepX.refl _ _) hI rfl
    case body =>
      rintro l2 pre j oi a' V hl hsz ⟨r0, hr0⟩ ⟨o', rfl, ho', hH, hTx, hz⟩ rfl ⟨rfl, hj⟩
      have hm : min 32 (x.size - j * 32) = 32 := by have := cut32 hx32.out.1 hj; omega
      rw [hm]
      obtain ⟨gx, hgx⟩ : ∃ g, Wa.heap.size = g := ⟨_, rfl⟩
      have hpl := hid (pc_len hx32.out.1 hj)
      have hC := hid (hash_cells (pc x j) hpl.out)
      have hHd := hid (hH.below hJ2.out hbw.out (show Below V.heap.size V V.drew from (Below.refl _ V).drew))
      have hld := hid (show (loadVar 33 ⟨gx, j * 32, none⟩).run Try.prog V.drew = .ok (.agg (byteCells (pc x j)).toArray) V.drew from by rw [← hgx]; exact run_loadVar_mid V.drew _ _ 33 _ _ (pc_range hTx) Try.underlying33 rfl (by exact hC.out.size'))
      have hyb := hid (hHd.out.yb.cO 0 _ rfl)
      have hoff := hid (off_lt hxk'.out hj)
      have hpre := hid (show List.range (offL xs k) ++ (List.range j).map (offL xs k + ·) = List.range (offL xs k + j) from List.range_add.symm)
      have hY1 := hid (by have := hYy.out (List.range (offL xs k + j)) (offL xs k + j) o' V.drew (by rw [← hpre.out]; exact hHd.out.j) ⟨rfl, hoff.out⟩; rw [pcsL_at hxk'.out hj] at this; exact yieldAt_any (m' := m) rfl this)
      have hTx' := hid hTx
      have hH' := hid hH
      have hsz' := hid hsz
      have hz' := hid hz
      have hj' := hid hj
      have ho2 := hid ho'
      have hgx' := hid hgx
      have hVd := hid (show V.drew.heap = V.heap from rfl)
      rw [hgx]
      clear hm hTx hH hj hgx ho'
      gi_wp2_with fail
      refine wpIn_region_any mixedB ?_
      rw [show ({ V with drawn := V.drawn + 1 } : World) = V.drew from rfl]
      obtain ⟨fn1, tmps1, assign1, body1, hy1, hR1⟩ := hY1.out
      generalize V.drew = Vd at *
      refine wpAnyIn_all (rs := [0, 1]) (by kernel_rfl) (by simp) (List.forall_mem_cons.2 ⟨?_, List.forall_mem_cons.2 ⟨?_, fun _ h => nomatch h⟩⟩)
      · refine pureIn (.func (.yield l) #[] #[]) rfl rfl (fun c e => by cases e) (by kernel_rfl) (by have c1 := hyb.out; go_simp) ?_; simp only [ly, Act.put]
        refine wpAnyIn_all (rs := [1]) (by kernel_rfl) (by simp) (fun i hi => ?_)
        obtain rfl := List.mem_singleton.1 hi
        refine pureIn (.slice (some ⟨gx, j * 32, none⟩) 32 (cp - j * 32)) rfl rfl (fun c e => by cases e) (by kernel_rfl) (by go_simp) ?_; simp only [ly, Act.put]
        refine wpAnyIn_all (rs := [2]) (by kernel_rfl) (by simp) (fun i hi => ?_)
        obtain rfl := List.mem_singleton.1 hi
        refine pureIn (.pointer (some ⟨gx, j * 32, none⟩)) rfl rfl (fun c e => by cases e) (by kernel_rfl) (by have ar := run_arrayAt (P := Try.prog) 33 5 (some ⟨gx, j * 32, none⟩) 32 32 (cp - j * 32) (Nat.le_refl _) Try.underlying33; go_simp) ?_; simp only [ly, Act.put]
        refine wpAnyIn_all (rs := [3]) (by kernel_rfl) (by simp) (fun i hi => ?_)
        obtain rfl := List.mem_singleton.1 hi
        refine loadIn 33 (.tmp 18) rfl rfl rfl _ (.agg (byteCells (pc x j)).toArray) rfl (by exact hld.out) ?_; simp only [ly, Act.put]
        refine wpAnyIn_all (rs := [4]) (by kernel_rfl) (by simp) (fun i hi => ?_)
        obtain rfl := List.mem_singleton.1 hi
        refine wpOpIn_step rfl fun K hK => ?_
        rw [if_pos (by kernel_rfl)]
        simp only [ly1, ly2, ly3]
        unfold Oper.wpIn
        refine ⟨fun f hf => trivial, ?_⟩
        rw [show (Fence.wide.inRound l2).round = some l2 from rfl, Oper.semAt_some _ _ _ (fun c e => by cases e)]
        go_simp
        refine ⟨fun e => (nomatch e), (show RoundIn (Fence.wide.inRound l2) _ _ _ _ _ _ _ _ _ from roundIn_any rfl hR1).mono ?_⟩
        rintro e V2 (⟨rfl, o2, hF2, hJ2', hK2, hO2⟩ | ⟨rfl, hx2, hO2⟩)
        · refine hK _ _ ?_
          refine wpAnyIn_all (rs := [5]) (by kernel_rfl) (by simp) (fun i hi => ?_)
          obtain rfl := List.mem_singleton.1 hi
          refine pureIn (.bool false) rfl rfl (fun c e => by cases e) (by kernel_rfl) (by go_simp) ?_; simp only [ly, Act.put]
          refine wpAnyIn_done (by kernel_rfl) ?_ _
          have hfin := hid (HsAt.round hHd.out hX'.out (fun h => ⟨hbw.out h, x2'.out h⟩) hF2 (by rw [← hpre.out] at hJ2'; exact hJ2') hK2 (by rw [hw0'.out] at hO2; exact hO2) (fun q hq => (hJo'.out _ _ _ _ hJ2' hq).2))
          have hK2' := hid hK2
          have hF2' := hid hF2
          have hO2' := hid hO2
          clear hK2 hF2 hO2 hJ2' hK K
          gi_wp2_with fail
          have hfar2 := hid (fun q (h : o' q) (h2 : W2.heap.size ≤ q) => show W2.heap.size + 2 ≤ q from (ho2.out q h).elim (fun h => by have := (hSa.out.own q h).2.2; have := hs1.out; have := hs2.out; omega) id)
          have hko := hid (KeepsO.heap hVd.out (show KeepsO W2.heap.size (fun q => o' q ∧ W2.heap.size + 2 ≤ q) Vd V2 from ⟨hO2'.out.1, fun q ob hk hno h hc => hO2'.out.2 q ob (by have := hw0'.out; have := hSa.out.size; have := hs1.out; have := hs2.out; omega) (fun ho => hno ⟨ho, hfar2.out q ho hk⟩) h hc⟩))
          refine ⟨hko.out, KeepX.heap hVd.out (hK2'.out.more (fun q h => h.elim (fun h => .inl (.inl h)) (fun e => (ho2.out q e).elim (fun h => .inl (.inr h)) (fun h => .inr ⟨e, h⟩)))), fun q => o2 q ∧ W2.heap.size + 2 ≤ q, ?_, o2, rfl, ?_, ?_, ?_, ?_⟩
          · intro q hq
            exact (hF2'.out q hq.1).imp (fun h => ⟨h, hq.2⟩) (fun h => by rw [← hVd.out]; exact h)
          · intro q hq
            exact (hF2'.out q hq).elim (ho2.out q) (fun h => .inr (by have := hsz'.out; rw [hVd.out] at h; omega))
          · rw [← List.append_assoc]
            exact hfin.out
          · rw [← hgx'.out]
            exact hTx'.out.keep (KeepX.heap hVd.out hK2'.out) (fun e => e.elim (fun e => by have := hX'.out _ e; have := hSa.out.size; omega) (fun e => (ho2.out _ e).elim (fun e => by have := (hSa.out.own _ e).2.2; omega) (fun e => by have := hs1.out; have := hs2.out; omega)))
          · exact Nat.le_trans hz'.out hko.out.1
        · refine hK _ _ ?_
          refine wpAnyIn_all (rs := [5]) (by kernel_rfl) (by simp) (fun i hi => ?_)
          obtain rfl := List.mem_singleton.1 hi
          refine pureIn (.bool true) rfl rfl (fun c e => by cases e) (by kernel_rfl) (by go_simp) ?_; simp only [ly, Act.put]
          refine wpAnyIn_done (by kernel_rfl) ?_ _
          have hO2' := hid hO2
          have hx2' := hid hx2
          clear hO2 hx2 hK K
          gi_wp2_with fail
          have hfar2 := hid (fun q (h : o' q) (h2 : W2.heap.size ≤ q) => show W2.heap.size + 2 ≤ q from (ho2.out q h).elim (fun h => by have := (hSa.out.own q h).2.2; have := hs1.out; have := hs2.out; omega) id)
          have hko := hid (KeepsO.heap hVd.out (show KeepsO W2.heap.size (fun q => o' q ∧ W2.heap.size + 2 ≤ q) Vd V2 from ⟨hO2'.out.1, fun q ob hk hno h hc => hO2'.out.2 q ob (by have := hw0'.out; have := hSa.out.size; have := hs1.out; have := hs2.out; omega) (fun ho => hno ⟨ho, hfar2.out q ho hk⟩) h hc⟩))
          refine ⟨hko.out, hx2'.out, ⟨hH'.out.marks.nodup, fun D hD => ?_⟩, Nat.le_trans hz'.out hko.out.1⟩
          obtain ⟨h1, h2⟩ := hHd.out.marks.at_ D hD
          exact ⟨h1, hO2'.out.2 D _ (by have := hw0'.out; omega) (fun e => (hHd.out.own D e).2.1 hD) h2 rfl⟩
      · refine pureIn (.slice (some ⟨gx, j * 32, none⟩) 32 (cp - j * 32)) rfl rfl (fun c e => by cases e) (by kernel_rfl) (by go_simp) ?_; simp only [ly, Act.put]
        refine wpAnyIn_all (rs := [0, 2]) (by kernel_rfl) (by simp) (List.forall_mem_cons.2 ⟨?_, List.forall_mem_cons.2 ⟨?_, fun _ h => nomatch h⟩⟩)
        · refine pureIn (.func (.yield l) #[] #[]) rfl rfl (fun c e => by cases e) (by kernel_rfl) (by have c1 := hyb.out; go_simp) ?_; simp only [ly, Act.put]
          refine wpAnyIn_all (rs := [2]) (by kernel_rfl) (by simp) (fun i hi => ?_)
          obtain rfl := List.mem_singleton.1 hi
          refine pureIn (.pointer (some ⟨gx, j * 32, none⟩)) rfl rfl (fun c e => by cases e) (by kernel_rfl) (by have ar := run_arrayAt (P := Try.prog) 33 5 (some ⟨gx, j * 32, none⟩) 32 32 (cp - j * 32) (Nat.le_refl _) Try.underlying33; go_simp) ?_; simp only [ly, Act.put]
          refine wpAnyIn_all (rs := [3]) (by kernel_rfl) (by simp) (fun i hi => ?_)
          obtain rfl := List.mem_singleton.1 hi
          refine loadIn 33 (.tmp 18) rfl rfl rfl _ (.agg (byteCells (pc x j)).toArray) rfl (by exact hld.out) ?_; simp only [ly, Act.put]
          refine wpAnyIn_all (rs := [4]) (by kernel_rfl) (by simp) (fun i hi => ?_)
          obtain rfl := List.mem_singleton.1 hi
          refine wpOpIn_step rfl fun K hK => ?_
          rw [if_pos (by kernel_rfl)]
          simp only [ly1, ly2, ly3]
          unfold Oper.wpIn
          refine ⟨fun f hf => trivial, ?_⟩
          rw [show (Fence.wide.inRound l2).round = some l2 from rfl, Oper.semAt_some _ _ _ (fun c e => by cases e)]
          go_simp
          refine ⟨fun e => (nomatch e), (show RoundIn (Fence.wide.inRound l2) _ _ _ _ _ _ _ _ _ from roundIn_any rfl hR1).mono ?_⟩
          rintro e V2 (⟨rfl, o2, hF2, hJ2', hK2, hO2⟩ | ⟨rfl, hx2, hO2⟩)
          · refine hK _ _ ?_
            refine wpAnyIn_all (rs := [5]) (by kernel_rfl) (by simp) (fun i hi => ?_)
            obtain rfl := List.mem_singleton.1 hi
            refine pureIn (.bool false) rfl rfl (fun c e => by cases e) (by kernel_rfl) (by go_simp) ?_; simp only [ly, Act.put]
            refine wpAnyIn_done (by kernel_rfl) ?_ _
            have hfin := hid (HsAt.round hHd.out hX'.out (fun h => ⟨hbw.out h, x2'.out h⟩) hF2 (by rw [← hpre.out] at hJ2'; exact hJ2') hK2 (by rw [hw0'.out] at hO2; exact hO2) (fun q hq => (hJo'.out _ _ _ _ hJ2' hq).2))
            have hK2' := hid hK2
            have hF2' := hid hF2
            have hO2' := hid hO2
            clear hK2 hF2 hO2 hJ2' hK K
            gi_wp2_with fail
            have hfar2 := hid (fun q (h : o' q) (h2 : W2.heap.size ≤ q) => show W2.heap.size + 2 ≤ q from (ho2.out q h).elim (fun h => by have := (hSa.out.own q h).2.2; have := hs1.out; have := hs2.out; omega) id)
            have hko := hid (KeepsO.heap hVd.out (show KeepsO W2.heap.size (fun q => o' q ∧ W2.heap.size + 2 ≤ q) Vd V2 from ⟨hO2'.out.1, fun q ob hk hno h hc => hO2'.out.2 q ob (by have := hw0'.out; have := hSa.out.size; have := hs1.out; have := hs2.out; omega) (fun ho => hno ⟨ho, hfar2.out q ho hk⟩) h hc⟩))
            refine ⟨hko.out, KeepX.heap hVd.out (hK2'.out.more (fun q h => h.elim (fun h => .inl (.inl h)) (fun e => (ho2.out q e).elim (fun h => .inl (.inr h)) (fun h => .inr ⟨e, h⟩)))), fun q => o2 q ∧ W2.heap.size + 2 ≤ q, ?_, o2, rfl, ?_, ?_, ?_, ?_⟩
            · intro q hq
              exact (hF2'.out q hq.1).imp (fun h => ⟨h, hq.2⟩) (fun h => by rw [← hVd.out]; exact h)
            · intro q hq
              exact (hF2'.out q hq).elim (ho2.out q) (fun h => .inr (by have := hsz'.out; rw [hVd.out] at h; omega))
            · rw [← List.append_assoc]
              exact hfin.out
            · rw [← hgx'.out]
              exact hTx'.out.keep (KeepX.heap hVd.out hK2'.out) (fun e => e.elim (fun e => by have := hX'.out _ e; have := hSa.out.size; omega) (fun e => (ho2.out _ e).elim (fun e => by have := (hSa.out.own _ e).2.2; omega) (fun e => by have := hs1.out; have := hs2.out; omega)))
            · exact Nat.le_trans hz'.out hko.out.1
          · refine hK _ _ ?_
            refine wpAnyIn_all (rs := [5]) (by kernel_rfl) (by simp) (fun i hi => ?_)
            obtain rfl := List.mem_singleton.1 hi
            refine pureIn (.bool true) rfl rfl (fun c e => by cases e) (by kernel_rfl) (by go_simp) ?_; simp only [ly, Act.put]
            refine wpAnyIn_done (by kernel_rfl) ?_ _
            have hO2' := hid hO2
            have hx2' := hid hx2
            clear hO2 hx2 hK K
            gi_wp2_with fail
            have hfar2 := hid (fun q (h : o' q) (h2 : W2.heap.size ≤ q) => show W2.heap.size + 2 ≤ q from (ho2.out q h).elim (fun h => by have := (hSa.out.own q h).2.2; have := hs1.out; have := hs2.out; omega) id)
            have hko := hid (KeepsO.heap hVd.out (show KeepsO W2.heap.size (fun q => o' q ∧ W2.heap.size + 2 ≤ q) Vd V2 from ⟨hO2'.out.1, fun q ob hk hno h hc => hO2'.out.2 q ob (by have := hw0'.out; have := hSa.out.size; have := hs1.out; have := hs2.out; omega) (fun ho => hno ⟨ho, hfar2.out q ho hk⟩) h hc⟩))
            refine ⟨hko.out, hx2'.out, ⟨hH'.out.marks.nodup, fun D hD => ?_⟩, Nat.le_trans hz'.out hko.out.1⟩
            obtain ⟨h1, h2⟩ := hHd.out.marks.at_ D hD
            exact ⟨h1, hO2'.out.2 D _ (by have := hw0'.out; omega) (fun e => (hHd.out.own D e).2.1 hD) h2 rfl⟩
        · refine pureIn (.pointer (some ⟨gx, j * 32, none⟩)) rfl rfl (fun c e => by cases e) (by kernel_rfl) (by have ar := run_arrayAt (P := Try.prog) 33 5 (some ⟨gx, j * 32, none⟩) 32 32 (cp - j * 32) (Nat.le_refl _) Try.underlying33; go_simp) ?_; simp only [ly, Act.put]
          refine wpAnyIn_all (rs := [0, 3]) (by kernel_rfl) (by simp) (List.forall_mem_cons.2 ⟨?_, List.forall_mem_cons.2 ⟨?_, fun _ h => nomatch h⟩⟩)
          · refine pureIn (.func (.yield l) #[] #[]) rfl rfl (fun c e => by cases e) (by kernel_rfl) (by have c1 := hyb.out; go_simp) ?_; simp only [ly, Act.put]
            refine wpAnyIn_all (rs := [3]) (by kernel_rfl) (by simp) (fun i hi => ?_)
            obtain rfl := List.mem_singleton.1 hi
            refine loadIn 33 (.tmp 18) rfl rfl rfl _ (.agg (byteCells (pc x j)).toArray) rfl (by exact hld.out) ?_; simp only [ly, Act.put]
            refine wpAnyIn_all (rs := [4]) (by kernel_rfl) (by simp) (fun i hi => ?_)
            obtain rfl := List.mem_singleton.1 hi
            refine wpOpIn_step rfl fun K hK => ?_
            rw [if_pos (by kernel_rfl)]
            simp only [ly1, ly2, ly3]
            unfold Oper.wpIn
            refine ⟨fun f hf => trivial, ?_⟩
            rw [show (Fence.wide.inRound l2).round = some l2 from rfl, Oper.semAt_some _ _ _ (fun c e => by cases e)]
            go_simp
            refine ⟨fun e => (nomatch e), (show RoundIn (Fence.wide.inRound l2) _ _ _ _ _ _ _ _ _ from roundIn_any rfl hR1).mono ?_⟩
            rintro e V2 (⟨rfl, o2, hF2, hJ2', hK2, hO2⟩ | ⟨rfl, hx2, hO2⟩)
            · refine hK _ _ ?_
              refine wpAnyIn_all (rs := [5]) (by kernel_rfl) (by simp) (fun i hi => ?_)
              obtain rfl := List.mem_singleton.1 hi
              refine pureIn (.bool false) rfl rfl (fun c e => by cases e) (by kernel_rfl) (by go_simp) ?_; simp only [ly, Act.put]
              refine wpAnyIn_done (by kernel_rfl) ?_ _
              have hfin := hid (HsAt.round hHd.out hX'.out (fun h => ⟨hbw.out h, x2'.out h⟩) hF2 (by rw [← hpre.out] at hJ2'; exact hJ2') hK2 (by rw [hw0'.out] at hO2; exact hO2) (fun q hq => (hJo'.out _ _ _ _ hJ2' hq).2))
              have hK2' := hid hK2
              have hF2' := hid hF2
              have hO2' := hid hO2
              clear hK2 hF2 hO2 hJ2' hK K
              gi_wp2_with fail
              have hfar2 := hid (fun q (h : o' q) (h2 : W2.heap.size ≤ q) => show W2.heap.size + 2 ≤ q from (ho2.out q h).elim (fun h => by have := (hSa.out.own q h).2.2; have := hs1.out; have := hs2.out; omega) id)
              have hko := hid (KeepsO.heap hVd.out (show KeepsO W2.heap.size (fun q => o' q ∧ W2.heap.size + 2 ≤ q) Vd V2 from ⟨hO2'.out.1, fun q ob hk hno h hc => hO2'.out.2 q ob (by have := hw0'.out; have := hSa.out.size; have := hs1.out; have := hs2.out; omega) (fun ho => hno ⟨ho, hfar2.out q ho hk⟩) h hc⟩))
              refine ⟨hko.out, KeepX.heap hVd.out (hK2'.out.more (fun q h => h.elim (fun h => .inl (.inl h)) (fun e => (ho2.out q e).elim (fun h => .inl (.inr h)) (fun h => .inr ⟨e, h⟩)))), fun q => o2 q ∧ W2.heap.size + 2 ≤ q, ?_, o2, rfl, ?_, ?_, ?_, ?_⟩
              · intro q hq
                exact (hF2'.out q hq.1).imp (fun h => ⟨h, hq.2⟩) (fun h => by rw [← hVd.out]; exact h)
              · intro q hq
                exact (hF2'.out q hq).elim (ho2.out q) (fun h => .inr (by have := hsz'.out; rw [hVd.out] at h; omega))
              · rw [← List.append_assoc]
                exact hfin.out
              · rw [← hgx'.out]
                exact hTx'.out.keep (KeepX.heap hVd.out hK2'.out) (fun e => e.elim (fun e => by have := hX'.out _ e; have := hSa.out.size; omega) (fun e => (ho2.out _ e).elim (fun e => by have := (hSa.out.own _ e).2.2; omega) (fun e => by have := hs1.out; have := hs2.out; omega)))
              · exact Nat.le_trans hz'.out hko.out.1
            · refine hK _ _ ?_
              refine wpAnyIn_all (rs := [5]) (by kernel_rfl) (by simp) (fun i hi => ?_)
              obtain rfl := List.mem_singleton.1 hi
              refine pureIn (.bool true) rfl rfl (fun c e => by cases e) (by kernel_rfl) (by go_simp) ?_; simp only [ly, Act.put]
              refine wpAnyIn_done (by kernel_rfl) ?_ _
              have hO2' := hid hO2
              have hx2' := hid hx2
              clear hO2 hx2 hK K
              gi_wp2_with fail
              have hfar2 := hid (fun q (h : o' q) (h2 : W2.heap.size ≤ q) => show W2.heap.size + 2 ≤ q from (ho2.out q h).elim (fun h => by have := (hSa.out.own q h).2.2; have := hs1.out; have := hs2.out; omega) id)
              have hko := hid (KeepsO.heap hVd.out (show KeepsO W2.heap.size (fun q => o' q ∧ W2.heap.size + 2 ≤ q) Vd V2 from ⟨hO2'.out.1, fun q ob hk hno h hc => hO2'.out.2 q ob (by have := hw0'.out; have := hSa.out.size; have := hs1.out; have := hs2.out; omega) (fun ho => hno ⟨ho, hfar2.out q ho hk⟩) h hc⟩))
              refine ⟨hko.out, hx2'.out, ⟨hH'.out.marks.nodup, fun D hD => ?_⟩, Nat.le_trans hz'.out hko.out.1⟩
              obtain ⟨h1, h2⟩ := hHd.out.marks.at_ D hD
              exact ⟨h1, hO2'.out.2 D _ (by have := hw0'.out; omega) (fun e => (hHd.out.own D e).2.1 hD) h2 rfl⟩
          · refine loadIn 33 (.tmp 18) rfl rfl rfl _ (.agg (byteCells (pc x j)).toArray) rfl (by exact hld.out) ?_; simp only [ly, Act.put]
            refine wpAnyIn_all (rs := [0]) (by kernel_rfl) (by simp) (fun i hi => ?_)
            obtain rfl := List.mem_singleton.1 hi
            refine pureIn (.func (.yield l) #[] #[]) rfl rfl (fun c e => by cases e) (by kernel_rfl) (by have c1 := hyb.out; go_simp) ?_; simp only [ly, Act.put]
            refine wpAnyIn_all (rs := [4]) (by kernel_rfl) (by simp) (fun i hi => ?_)
            obtain rfl := List.mem_singleton.1 hi
            refine wpOpIn_step rfl fun K hK => ?_
            rw [if_pos (by kernel_rfl)]
            simp only [ly1, ly2, ly3]
            unfold Oper.wpIn
            refine ⟨fun f hf => trivial, ?_⟩
            rw [show (Fence.wide.inRound l2).round = some l2 from rfl, Oper.semAt_some _ _ _ (fun c e => by cases e)]
            go_simp
            refine ⟨fun e => (nomatch e), (show RoundIn (Fence.wide.inRound l2) _ _ _ _ _ _ _ _ _ from roundIn_any rfl hR1).mono ?_⟩
            rintro e V2 (⟨rfl, o2, hF2, hJ2', hK2, hO2⟩ | ⟨rfl, hx2, hO2⟩)
            · refine hK _ _ ?_
              refine wpAnyIn_all (rs := [5]) (by kernel_rfl) (by simp) (fun i hi => ?_)
              obtain rfl := List.mem_singleton.1 hi
              refine pureIn (.bool false) rfl rfl (fun c e => by cases e) (by kernel_rfl) (by go_simp) ?_; simp only [ly, Act.put]
              refine wpAnyIn_done (by kernel_rfl) ?_ _
              have hfin := hid (HsAt.round hHd.out hX'.out (fun h => ⟨hbw.out h, x2'.out h⟩) hF2 (by rw [← hpre.out] at hJ2'; exact hJ2') hK2 (by rw [hw0'.out] at hO2; exact hO2) (fun q hq => (hJo'.out _ _ _ _ hJ2' hq).2))
              have hK2' := hid hK2
              have hF2' := hid hF2
              have hO2' := hid hO2
              clear hK2 hF2 hO2 hJ2' hK K
              gi_wp2_with fail
              have hfar2 := hid (fun q (h : o' q) (h2 : W2.heap.size ≤ q) => show W2.heap.size + 2 ≤ q from (ho2.out q h).elim (fun h => by have := (hSa.out.own q h).2.2; have := hs1.out; have := hs2.out; omega) id)
              have hko := hid (KeepsO.heap hVd.out (show KeepsO W2.heap.size (fun q => o' q ∧ W2.heap.size + 2 ≤ q) Vd V2 from ⟨hO2'.out.1, fun q ob hk hno h hc => hO2'.out.2 q ob (by have := hw0'.out; have := hSa.out.size; have := hs1.out; have := hs2.out; omega) (fun ho => hno ⟨ho, hfar2.out q ho hk⟩) h hc⟩))
              refine ⟨hko.out, KeepX.heap hVd.out (hK2'.out.more (fun q h => h.elim (fun h => .inl (.inl h)) (fun e => (ho2.out q e).elim (fun h => .inl (.inr h)) (fun h => .inr ⟨e, h⟩)))), fun q => o2 q ∧ W2.heap.size + 2 ≤ q, ?_, o2, rfl, ?_, ?_, ?_, ?_⟩
              · intro q hq
                exact (hF2'.out q hq.1).imp (fun h => ⟨h, hq.2⟩) (fun h => by rw [← hVd.out]; exact h)
              · intro q hq
                exact (hF2'.out q hq).elim (ho2.out q) (fun h => .inr (by have := hsz'.out; rw [hVd.out] at h; omega))
              · rw [← List.append_assoc]
                exact hfin.out
              · rw [← hgx'.out]
                exact hTx'.out.keep (KeepX.heap hVd.out hK2'.out) (fun e => e.elim (fun e => by have := hX'.out _ e; have := hSa.out.size; omega) (fun e => (ho2.out _ e).elim (fun e => by have := (hSa.out.own _ e).2.2; omega) (fun e => by have := hs1.out; have := hs2.out; omega)))
              · exact Nat.le_trans hz'.out hko.out.1
            · refine hK _ _ ?_
              refine wpAnyIn_all (rs := [5]) (by kernel_rfl) (by simp) (fun i hi => ?_)
              obtain rfl := List.mem_singleton.1 hi
              refine pureIn (.bool true) rfl rfl (fun c e => by cases e) (by kernel_rfl) (by go_simp) ?_; simp only [ly, Act.put]
              refine wpAnyIn_done (by kernel_rfl) ?_ _
              have hO2' := hid hO2
              have hx2' := hid hx2
              clear hO2 hx2 hK K
              gi_wp2_with fail
              have hfar2 := hid (fun q (h : o' q) (h2 : W2.heap.size ≤ q) => show W2.heap.size + 2 ≤ q from (ho2.out q h).elim (fun h => by have := (hSa.out.own q h).2.2; have := hs1.out; have := hs2.out; omega) id)
              have hko := hid (KeepsO.heap hVd.out (show KeepsO W2.heap.size (fun q => o' q ∧ W2.heap.size + 2 ≤ q) Vd V2 from ⟨hO2'.out.1, fun q ob hk hno h hc => hO2'.out.2 q ob (by have := hw0'.out; have := hSa.out.size; have := hs1.out; have := hs2.out; omega) (fun ho => hno ⟨ho, hfar2.out q ho hk⟩) h hc⟩))
              refine ⟨hko.out, hx2'.out, ⟨hH'.out.marks.nodup, fun D hD => ?_⟩, Nat.le_trans hz'.out hko.out.1⟩
              obtain ⟨h1, h2⟩ := hHd.out.marks.at_ D hD
              exact ⟨h1, hO2'.out.2 D _ (by have := hw0'.out; omega) (fun e => (hHd.out.own D e).2.1 hD) h2 rfl⟩
    case done =>
      rintro D ys oi V hD rfl ⟨o', rfl, ho', hH, hTx, hz⟩ hK
      have hnx := hid (offL_next hxk'.out)
      rw [← List.range_add, ← hnx.out] at hH
      have hrel := hid (show HsAt w0 b n xs J (List.range (offL xs (k + 1))) o' (D :: Ds) l V from ⟨hH.j, hH.yb, hH.row, ⟨List.nodup_cons.2 ⟨fun hD2 => by have := hSa.out.marks.lt D hD2; have := hs1.out; have := hs2.out; omega, hH.marks.nodup⟩, fun E hE => by
        rcases List.mem_cons.1 hE with rfl | hE
        · exact ⟨by have := hSa.out.size; have := hs1.out; have := hs2.out; omega, hK⟩
        · exact hH.marks.at_ E hE⟩, fun q hq => ⟨(hH.own q hq).1, fun hm => by
          rcases List.mem_cons.1 hm with rfl | hm
          · rcases ho' _ hq with h | h
            · have := (hSa.out.own _ h).2.2
              have := hs1.out
              have := hs2.out
              omega
            · omega
          · exact (hH.own q hq).2.1 hm, (hH.own q hq).2.2⟩, hH.size⟩)
      clear hH hTx hK
      gi_wp2_with fail
      rw [show (({ target := .collected D, args := #[] } : Deferred) :: marksOf Ds) = marksOf (D :: Ds) from rfl]
      refine ⟨⟨k + 1, o', D :: Ds, _, _, _, _, _, _, _, _, _, _, _, _, _, _, _, _, ⟨hlt, hrel.out⟩, rfl⟩, ?_⟩
      simp [intOf]
      omega
    case stop =>
      rintro D V hD ⟨h1, h2, h3⟩ hK
      have h1' := hid h1
      have h2' := hid h2
      have hK' := hid hK
      clear h1 h2 h3 hK
      gi_wp2_with fail
      exact leaves_marks (fun W => Jx W) (fun D => w0 ≤ D) (fun U E hE hx _ => hJx2.out U _ (some E) hx (grownBy_putObj' _ _ _) (fun r e => by cases e; exact hE)) (fun U hx => ⟨_, results_none rfl _ _ _, ⟨_, rfl⟩, .inr hx⟩) (D :: Ds) V
        (List.nodup_cons.2 ⟨fun hD2 => by have := hSa.out.marks.lt D hD2; have := hs1.out; have := hs2.out; omega, h2'.out.nodup⟩) (fun E hE => by
          rcases List.mem_cons.1 hE with rfl | hE
          · exact ⟨by have := hSa.out.size; have := hs1.out; have := hs2.out; omega, hK'.out⟩
          · exact ⟨by have := (h2'.out.at_ E hE).1; omega, (h2'.out.at_ E hE).2⟩) h1'.out
  · have hki : ¬ (k : Int) < (n : Int) := by omega
    obtain rfl : k = n := by omega
    gi_wp2_with fail
    have hj := hSa.out.j
    rw [offL_all hl'.out] at hj
    exact leaves_marks (fun W => J (List.range (pcsL xs).length) o W) (fun D => w0 ≤ D ∧ ¬ o D) (fun U E hE hx _ => hJ2.out _ _ U _ (some E) hx (grownBy_putObj' _ _ _) (fun r e => by cases e; exact hE)) (fun U hx => ⟨_, results_none rfl _ _ _, ⟨_, rfl⟩, .inl ⟨o, hx⟩⟩) Ds Wa
      hSa.out.marks.nodup (fun E hE => ⟨⟨by have := (hSa.out.marks.at_ E hE).1; omega, fun e => (hSa.out.own E e).2.1 hE⟩, (hSa.out.marks.at_ E hE).2⟩) hj

end Go.Proofs.Ytpjfhbmegabafaa
