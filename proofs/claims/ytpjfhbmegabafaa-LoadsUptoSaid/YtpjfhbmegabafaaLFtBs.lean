/- Layer 12, plain: the objects of the file "ab", reckoned.
   Layer 12: what every program answers that is one.
   Layer 12: Builds. -/
import Derived.Test.YtpjfhbmegabafaaLFtLo
import Derived.Test.YtpjfhbmegabafaaLShaNu
import Derived.Test.YtpjfhbmegabafaaLSameH
import Derived.Test.YtpjfhbmegabafaaLObPr
import Derived.Test.YtpjfhbmegabafaaLFtU
import Derived.Test.YtpjfhbmegabafaaLLendT
namespace Go.Proofs.Ytpjfhbmegabafaa
open Go.RowKit
attribute [local irreducible] Sha.compress Sha.blocks Sha.sha Sha.pad

theorem bn_inj : ∀ (l m : List UInt8), l.length = m.length → Sha.bn l = Sha.bn m → l = m
  | [], [], _, _ => rfl
  | x :: l, y :: m, hl, e => by
    have hl' : l.length = m.length := by simpa using hl
    rw [Sha.bn_cons, Sha.bn_cons, hl'] at e
    have h1 := Sha.bn_lt l
    have h2 := Sha.bn_lt m
    rw [hl'] at h1
    obtain ⟨p, hp⟩ : ∃ p, 256 ^ m.length = p := ⟨_, rfl⟩
    rw [hp] at e h1 h2
    have hxy : x.toNat = y.toNat := by
      rcases Nat.lt_trichotomy x.toNat y.toNat with h | h | h
      · have := Nat.mul_le_mul_right p h
        rw [Nat.succ_mul] at this
        omega
      · exact h
      · have := Nat.mul_le_mul_right p h
        rw [Nat.succ_mul] at this
        omega
    rw [hxy] at e
    rw [UInt8.toNat_inj.1 hxy, bn_inj l m hl' (by omega)]
def dAB : ByteArray := ⟨#[97, 98]⟩
def tBab : ByteArray := ⟨#[66, 97, 98]⟩
def h1L : List UInt8 := [3, 209, 76, 124, 58, 241, 0, 162, 241, 231, 184, 58, 145, 236, 38, 72, 189, 26, 3, 85, 164, 184, 191, 108, 111, 56, 160, 237, 216, 34, 176, 90]
def tI : ByteArray := nodeB ⟨#[73]⟩ [h1L]
def h2L : List UInt8 := [167, 166, 166, 9, 17, 202, 85, 251, 237, 42, 108, 167, 134, 252, 254, 167, 212, 111, 121, 21, 88, 180, 191, 31, 97, 103, 232, 151, 188, 171, 129, 174]
def tR : ByteArray := nodeB ⟨#[82]⟩ [h2L]
def h3L : List UInt8 := [55, 17, 98, 173, 235, 38, 145, 180, 230, 126, 6, 196, 55, 240, 154, 113, 202, 146, 7, 156, 186, 30, 25, 95, 218, 192, 199, 255, 238, 75, 43, 112]
theorem ob_num {x : ByteArray} {l : List UInt8} (hl : l.length = 32) (hx : (tagL 0 [x]).length < 1000000000000000) (h : Nat.beq (Sha.shaN (Sha.bn (tagL 0 [x])) (tagL 0 [x]).length) (Sha.bn l) = true) : obHash x = l := by
  refine bn_inj _ _ (by rw [obHash_len, hl]) ?_
  unfold obHash
  rw [Sha.sha_num _ hx]
  exact Nat.eq_of_beq_eq_true h
theorem ob1 : obHash tBab = h1L := ob_num rfl (by decide) (by kernel_rfl)
theorem ob2 : obHash tI = h2L := ob_num rfl (by decide) (by kernel_rfl)
theorem ob3 : obHash tR = h3L := ob_num rfl (by decide) (by kernel_rfl)
theorem tree_ab : unlikeT (treeT dAB) = [tBab, tI, tR] := by
  have e1 : blksT dAB = [tBab] := by
    unfold blksT
    rw [show cutN 64 dAB.size = 1 from rfl]
    show [fblkT dAB 0] = [tBab]
    rw [show fblkT dAB 0 = tBab from by kernel_rfl]
  have e2 : hsT dAB = [h1L] := by unfold hsT; rw [e1]; show [obHash tBab] = _; rw [ob1]
  have e3 : fansT [h1L] = [tI] := by
    unfold fansT
    show [fanT [h1L] 0] = [tI]
    rfl
  have e4 : fsT dAB = [h2L] := by unfold fsT; rw [e2, e3]; show [obHash tI] = _; rw [ob2]
  have e5 : rootT dAB = tR := by unfold rootT; rw [e4]; rfl
  have e6 : treeT dAB = [tBab, tI, tR] := by unfold treeT; rw [e1, e2, e3, e5]; rfl
  rw [e6]
  unfold unlikeT
  have n1 : tBab ∉ ([] : List ByteArray) := List.not_mem_nil
  have n2 : tI ∉ [tBab] := by rw [List.mem_singleton]; decide +kernel
  have n3 : tR ∉ [tBab, tI] := by simp only [List.mem_cons, List.not_mem_nil, or_false]; decide +kernel
  simp only [List.foldl_cons, List.foldl_nil]
  rw [addT_new n1, List.nil_append, addT_new n2, show [tBab] ++ [tI] = [tBab, tI] from rfl, addT_new n3]
  rfl
theorem root_ab : obHash (rootT dAB) = h3L := by
  have e1 : blksT dAB = [tBab] := by
    unfold blksT
    rw [show cutN 64 dAB.size = 1 from rfl]
    show [fblkT dAB 0] = [tBab]
    rw [show fblkT dAB 0 = tBab from by kernel_rfl]
  have e2 : hsT dAB = [h1L] := by unfold hsT; rw [e1]; show [obHash tBab] = _; rw [ob1]
  have e3 : fansT [h1L] = [tI] := rfl
  have e4 : fsT dAB = [h2L] := by unfold fsT; rw [e2, e3]; show [obHash tI] = _; rw [ob2]
  rw [show rootT dAB = tR from by unfold rootT; rw [e4]; rfl]
  exact ob3
def ksAB : List (List UInt8 × ByteArray) := [(h1L, tBab), (h2L, tI), (h3L, tR)]
theorem ks_ab : ([tBab, tI, tR] : List ByteArray).foldl addS [] = ksAB := by
  have s1 : tBab.size ≤ 65536 := by decide
  have s2 : tI.size ≤ 65536 := by decide +kernel
  have s3 : tR.size ≤ 65536 := by decide +kernel
  simp only [List.foldl_cons, List.foldl_nil]
  have a1 : addS [] tBab = [(h1L, tBab)] := by
    unfold addS
    rw [if_pos s1, ob1, addK_new (fun p hp => (List.not_mem_nil hp).elim)]
    rfl
  have a2 : addS [(h1L, tBab)] tI = [(h1L, tBab), (h2L, tI)] := by
    unfold addS
    rw [if_pos s2, ob2, addK_new (by decide +kernel)]
    rfl
  have a3 : addS [(h1L, tBab), (h2L, tI)] tR = ksAB := by
    unfold addS
    rw [if_pos s3, ob3, addK_new (by decide +kernel)]
    rfl
  rw [a1, a2, a3]
theorem get1 : ksGet ksAB h1L = some tBab := by decide +kernel
theorem get2 : ksGet ksAB h2L = some tI := by decide +kernel
theorem get3 : ksGet ksAB h3L = some tR := by decide +kernel
theorem in2 : insideT tR = hashB h2L := by decide +kernel
theorem in1 : insideT tI = hashB h1L := by decide +kernel
theorem in0 : insideT tBab = dAB := by decide +kernel
theorem load_two : loadT (ksGet ksAB) h3L 2 = some (dAB, []) := by
  unfold loadT
  rw [show cutN 8 (cutN 64 2) = 1 from rfl, show cutN 64 2 = 1 from rfl, lvl_in get3 (show mayR 1 0 tR = true from by decide +kernel), in2, lvl]
  simp only [List.nil_append, ↓reduceIte]
  rw [pcsL_hash rfl, lvl_in get2 (show mayI 1 0 tI = true from by decide +kernel), in1, lvl]
  simp only [List.nil_append, ↓reduceIte]
  rw [pcsL_hash rfl, lvl_in get1 (show mayB 2 0 tBab = true from by decide +kernel), in0, lvl]
  simp only [List.nil_append, ↓reduceIte]
  rfl
theorem load_three : loadT (ksGet ksAB) h3L 3 = none := by
  unfold loadT
  rw [show cutN 8 (cutN 64 3) = 1 from rfl, show cutN 64 3 = 1 from rfl, lvl_in get3 (show mayR 1 0 tR = true from by decide +kernel), in2, lvl]
  simp only [List.nil_append, ↓reduceIte]
  rw [pcsL_hash rfl, lvl_in get2 (show mayI 1 0 tI = true from by decide +kernel), in1, lvl]
  simp only [List.nil_append, ↓reduceIte]
  rw [pcsL_hash rfl, lvl_bad get1 (show mayB 3 0 tBab = false from by decide +kernel)]
theorem load_none (root : List UInt8) (size : Nat) : loadT (ksGet []) root size = some (⟨#[]⟩, [root]) := by
  unfold loadT
  rw [lvl_want (show ksGet [] root = none from rfl), lvl, List.nil_append]
  simp only [List.cons_ne_nil, ↓reduceIte]
  rw [show unlikeH [root] = [root] from by unfold unlikeH; rw [List.foldl_cons, List.foldl_nil, addH_new (List.not_mem_nil)]; rfl]

end Go.Proofs.Ytpjfhbmegabafaa
namespace Go.Proofs.Ytpjfhbmegabafaa
open Go.RowKit
open Go.Lib (strCells strCells_length strCells_oneCell)
attribute [local irreducible] Sha.compress Sha.blocks Sha.sha Sha.pad

section
variable {P : Program} {ops : Array Oper} {rest : List Oper} {o : Oper} {a : Act} {w : World} {Q : Exit → Act → World → Prop}
theorem wpL_run_on (hw : Region.wanted o (yielded ops a.tmps) = true) (v : Value) (w' : World) (hrun : (execOp a.eval o).run P w = .ok (.value v) w') (h : wpList P ops Q rest (a.put o.dst v) w') : wpList P ops Q (o :: rest) a w :=
  wpList_step fun _ hK => by
    rw [if_pos hw]
    unfold Oper.wp
    rw [hrun]
    exact hK _ _ h
theorem wpL_loadH (hw : Region.wanted o (yielded ops a.tmps) = true) (x : Operand) (ho : o.op = .load 33 x) {g : Nat} {l : List UInt8} (hx : a.eval x = .pointer (some ⟨g, 0, none⟩)) (h32 : l.length = 32) (hH : Holds w g 33 (byteCells l)) (h : wpList Try.prog ops Q rest (a.put o.dst (.agg (byteCells l).toArray)) w) : wpList Try.prog ops Q (o :: rest) a w :=
  wpL_run_on hw _ _ (by unfold execOp; simp only [ho, hx, Instr.loadAt, Instr.sureAddr, Sem.run_bind, Sem.run_pure, Result.andThen_ok, run_loadVar_mid w g 0 33 (byteCells l) _ (h_all hH) Try.underlying33 rfl (hash_cells l h32).size']) h
theorem wpL_buildH (hw : Region.wanted o (yielded ops a.tmps) = true) (x : Operand) (ho : o.op = .buildSlice 62 1 #[(0, x)]) {l : List UInt8} (hx : a.eval x = .agg (byteCells l).toArray) (h32 : l.length = 32) (h : wpList Try.prog ops Q rest (a.put o.dst (.slice (some ⟨w.heap.size, 0, none⟩) 1 1)) (w.alloc (.cells (byteCells l).toArray 33))) : wpList Try.prog ops Q (o :: rest) a w := by
  obtain ⟨i0, hi0, hz0, hz1, hz2⟩ := info_parts Try.infoHashD
  have hC := hash_cells l h32
  have hr := run_buildSlice_one (w := w) 62 33 i0 _ Try.underlying62 hi0 hz0 (byteCells l).toArray (by rw [hz1, List.size_toArray, hC.len]) (by rw [List.size_toArray, hC.len]; decide) (by rw [List.size_toArray, hC.len]; decide)
  exact wpL_run_on hw _ _ (by unfold execOp; simp only [ho, List.map_toArray, List.map_cons, List.map_nil, hx, Sem.run_bind, hr, Result.andThen_ok, Sem.run_pure]) h
end
theorem hashs_one {V : World} {g : Nat} {l : List UInt8} (h32 : l.length = 32) (h : Holds V g 33 (byteCells l)) : Hashs V V.heap.size (some ⟨g, 0, none⟩) 1 [l] := by
  refine ⟨⟨by rw [hashCells_one, byteCells, List.length_map, h32], .inr ⟨_, rfl, h.lt, fun j hj => ?_⟩⟩, fun x hx => by rw [List.mem_singleton.1 hx]; exact h32⟩
  rw [show (⟨g, 0, none⟩ : Addr).add j = ⟨g, j, none⟩ from by unfold Addr.add; split <;> simp_all, h.cell]
  have e : hashCells [l] = byteCells l := hashCells_one l
  rw [List.getElem?_eq_getElem (by rw [e] at hj; exact hj)]
  simp only [e]
def objsAB : List ByteArray := [tBab, tI, tR]
theorem objs_small : ∀ x ∈ objsAB, x.size ≤ 140737488351232 := by decide +kernel
theorem objs_at {V : World} {b : Nat} (hT : TxtsAt V b objsAB) : 0 < 3 → ∃ p : Addr, (some ⟨b, 0, none⟩ : Option Addr) = some p ∧ p.block < V.heap.size ∧ ∀ i x, objsAB[i]? = some x → V.cell? (p.add i) = some (.string x) := fun _ =>
  ⟨_, rfl, hT.lt, fun i x hx => by rw [show (⟨b, 0, none⟩ : Addr).add i = ⟨b, i, none⟩ from by unfold Addr.add; split <;> simp_all]; exact hT.cell hx⟩
theorem ld2 {V : World} {b c : Nat} (hT : TxtsAt V b objsAB) : Calls Try.prog 30 #[.agg (byteCells h3L).toArray, .int .i64 2, .slice (some ⟨b, 0, none⟩) 3 c] V fun e V' => e = .returned (.tuple #[.string dAB, .slice none 0 0, .int .i64 0]) ∧ Below V.heap.size V V' := by
  refine (load_any h3L rfl 2 (by decide) (some ⟨b, 0, none⟩) 3 c objsAB (by decide) rfl objs_small V (objs_at hT)).mono ?_
  rintro e V' ⟨h, hb⟩
  rw [show objsAB.foldl addS [] = ksAB from ks_ab, load_two] at h
  unfold LoadPost at h
  simp only [↓reduceIte] at h
  exact ⟨h, hb⟩
theorem ld3 {V : World} {b c : Nat} (hT : TxtsAt V b objsAB) : Calls Try.prog 30 #[.agg (byteCells h3L).toArray, .int .i64 3, .slice (some ⟨b, 0, none⟩) 3 c] V fun e V' => e = .returned (.tuple #[.string ⟨#[]⟩, .slice none 0 0, .int .i64 1200]) ∧ Below V.heap.size V V' := by
  refine (load_any h3L rfl 3 (by decide) (some ⟨b, 0, none⟩) 3 c objsAB (by decide) rfl objs_small V (objs_at hT)).mono ?_
  rintro e V' ⟨h, hb⟩
  rw [show objsAB.foldl addS [] = ksAB from ks_ab, load_three] at h
  exact ⟨h, hb⟩
theorem ld0 (root : List UInt8) (hr : root.length = 32) (V : World) : Calls Try.prog 30 #[.agg (byteCells root).toArray, .int .i64 2, .slice none 0 0] V fun e V' => (∃ A c, e = .returned (.tuple #[.string ⟨#[]⟩, .slice A 1 c, .int .i64 1201]) ∧ V'.ownsRow 0 33 32 (.slice A 1 c) 1 (hashCells [root])) ∧ Below V.heap.size V V' := by
  refine (load_any root hr 2 (by decide) none 0 0 [] (by decide) rfl (fun _ h => nomatch h) V (fun h => absurd h (by decide))).mono ?_
  rintro e V' ⟨h, hb⟩
  rw [show ([] : List ByteArray).foldl addS [] = [] from rfl, load_none] at h
  unfold LoadPost at h
  simp only [List.cons_ne_nil, ↓reduceIte] at h
  obtain ⟨A, m, c, e1, e2, -⟩ := h
  have hm : m = 1 := by
    have h1 := e2.1
    rw [hashCells_length _ (fun x hx => by rw [List.mem_singleton.1 hx]; exact hr)] at h1
    simp at h1
    omega
  subst hm
  exact ⟨⟨A, c, e1, e2⟩, hb⟩
theorem bl_ab (V : World) : Calls Try.prog 25 #[.string dAB] V fun e V' => (∃ b c, e = .returned (.tuple #[.agg (byteCells h3L).toArray, .slice (some ⟨b, 0, none⟩) 3 c, .int .i64 0]) ∧ TxtsAt V' b objsAB ∧ V.heap.size ≤ b) ∧ Below V.heap.size V V' := by
  refine (build_any dAB (by decide) V).mono ?_
  rintro e V' ⟨A, m, c, rfl, hro, hfr, hb⟩
  rw [tree_ab] at hro
  rw [root_ab]
  have hm : m = 3 := by
    have h1 := hro.1
    simp [strs] at h1
    omega
  subst hm
  obtain ⟨b, e1, e2, e3, e4, -⟩ := own_txts hro
  obtain rfl := e1 (by decide)
  exact ⟨⟨b, c, rfl, e2 (by decide), hfr b rfl⟩, hb⟩
set_option maxRecDepth 100000 in
set_option maxHeartbeats 1000000 in
theorem awake12_any (w : World) : Calls Try.prog 28 #[] w fun e w' => e = .returned (.bool true) ∧ Below w.heap.size w w' := by
  have hC := hid (hash_cells h3L rfl)
  have hBu := hid (fun V => bl_ab V)
  have h0 := hid (Below.refl w.heap.size w)
  have hL := hid (fun V => ld0 h3L rfl V)
  obtain ⟨z, hz⟩ : ∃ z, zeroS 4097 = z := ⟨_, rfl⟩
  have hzs := hid (show z.size = 4097 from by rw [← hz]; exact zeroS_size _)
  have hz' := hid hz
  have hBl := hid (fun V => build_long z (by rw [hzs.out]; decide) V)
  obtain ⟨i0, hi, hz0, hzz, hby⟩ := info_parts Try.infoU8
  have e4 : (tBab.toList == [66, 97, 98]) = true := by kernel_rfl
  have e5 : (dAB.toList == [97, 98]) = true := by kernel_rfl
  clear hz
  obtain ⟨hh, hhd⟩ : ∃ l, h3L = l := ⟨_, rfl⟩
  have hld2 := hid (fun (V : World) (b c : Nat) (h : TxtsAt V b objsAB) => ld2 (c := c) h)
  have hld3 := hid (fun (V : World) (b c : Nat) (h : TxtsAt V b objsAB) => ld3 (c := c) h)
  rw [hhd] at hC hBu hL hld2 hld3
  have hh32 := hid (show hh.length = 32 from by rw [← hhd]; rfl)
  clear hhd
  go_enter Try.func28, Try.ntmps28
  go_wp2_with (first
    | (go_at_call 25; refine (hBu.out _).mono ?_; clear hBu; rintro e W1 ⟨⟨b, c, rfl, hT, hbl⟩, hb⟩; have hb1 := hid (h0.out.trans (hb.mono h0.out.size)); have hT1 := hid hT; have hbl' := hid hbl; clear hb hT hbl)
    | ((with_reducible refine at_slot (some 1) ?_); refine wpList_run rfl (.pointer (some ⟨W1.heap.size, 0, none⟩)) (W1.alloc (.cells z32 33)) (by kernel_rfl) ?_)
    | ((with_reducible refine at_slot none ?_); refine wpList_store_mid rfl 33 (.tmp 1) (.tmp 18) rfl W1.heap.size 0 (byteCells hh).toArray rfl rfl (by exact hC.out.there W1) (by exact hC.out.size) (by exact hC.out.one) ?_; generalize hW : World.setCells _ _ _ _ = W2; obtain ⟨hN, hb⟩ := hC.out.new hW; have hX2 := hid hN; have hT2 := hid (hT1.out.on (hb.block b hT1.out.lt)); have hb2 := hid (hb1.out.trans (hb.mono hb1.out.size)); clear hN hb hW)
    | ((with_reducible refine at_slot (some 22) ?_); refine wpList_load_mid rfl 33 (.tmp 1) rfl W1.heap.size 0 rfl (byteCells hh) _ (by exact h_all hX2.out) Try.underlying33 rfl (by exact hC.out.size') ?_)
    | fail)
  refine (hld2.out W2 b c hT2.out).mono ?_
  rintro e W3 ⟨rfl, hb⟩
  have hX3 := hid (hX2.out.below hb hX2.out.lt)
  have hT3 := hid (hT2.out.on (hb.block b hT2.out.lt))
  have hb3 := hid (hb2.out.trans (hb.mono hb2.out.size))
  clear hb hld2
  go_wp2_with (first
    | ((with_reducible refine at_slot (some 29) ?_); refine wpList_load_mid rfl 33 (.tmp 1) rfl W1.heap.size 0 rfl (byteCells hh) _ (by exact h_all hX3.out) Try.underlying33 rfl (by exact hC.out.size') ?_)
    | fail)
  refine (hL.out W3).mono ?_
  rintro e W4 ⟨⟨A4, c4, rfl, hro⟩, hb⟩
  have hX4 := hid (hX3.out.below hb hX3.out.lt)
  have hT4 := hid (hT3.out.on (hb.block b hT3.out.lt))
  have hb4 := hid (hb3.out.trans (hb.mono hb3.out.size))
  have hr4 := hid hro
  clear hb hL hro
  go_wp2_with (first
    | ((with_reducible refine at_slot (some 35) ?_); refine wpList_load_mid rfl 33 (.tmp 1) rfl W1.heap.size 0 rfl (byteCells hh) _ (by exact h_all hX4.out) Try.underlying33 rfl (by exact hC.out.size') ?_)
    | fail)
  refine (hld3.out W4 b c hT4.out).mono ?_
  rintro e W5 ⟨rfl, hb⟩
  have hX5 := hid (hX4.out.below hb hX4.out.lt)
  have hT5 := hid (hT4.out.on (hb.block b hT4.out.lt))
  have hb5 := hid (hb4.out.trans (hb.mono hb4.out.size))
  have hr5 := hid (rown_onF hr4.out hb)
  clear hb hld3
  go_wp2_with (first
    | ((with_reducible refine at_slot (some 42) ?_); refine wpList_make_zeros rfl _ _ 51 rfl 5 i0 Try.underlying51 hi hz0 hzz hby _ 4097 rfl rfl (by omega) (by omega) z hz'.out ?_; intro W6 hRz hb; have hcv := run_convert_row (P := Try.prog) (w := W6) (e := 5) 51 9 Try.underlying51 Try.underlying5 Try.underlying9 hzs.out.symm hRz; have hcv' := hid hcv; clear hcv hRz; have hX6 := hid (hX5.out.below hb hX5.out.lt); have hT6 := hid (hT5.out.on (hb.block b hT5.out.lt)); have hb6 := hid (hb5.out.trans (hb.mono hb5.out.size)); have hr6 := hid (rown_onF hr5.out hb); clear hb)
    | ((with_reducible refine at_slot (some 43) ?_); refine wpList_convert rfl 51 9 (.tmp 42) rfl _ (.string z) _ rfl (by exact hcv'.out) ?_)
    | fail)
  refine (hBl.out W6).mono ?_
  rintro e W7 ⟨rfl, hb⟩
  have hX7 := hid (hX6.out.below hb hX6.out.lt)
  have hT7 := hid (hT6.out.on (hb.block b hT6.out.lt))
  have hb7 := hid (hb6.out.trans (hb.mono hb6.out.size))
  have hr7 := hid (rown_onF hr6.out hb)
  clear hb hBl
  have hZ := hid (hash_cells (List.replicate 32 0) rfl)
  go_wp2_with (first
    | ((with_reducible refine at_slot (some 13) ?_); refine wpList_run rfl (.pointer (some ⟨W7.heap.size, 0, none⟩)) (W7.alloc (.cells z32 33)) (by kernel_rfl) ?_)
    | ((with_reducible refine at_slot none ?_); refine wpList_store_mid rfl 33 (.tmp 13) (.tmp 45) rfl W7.heap.size 0 z32 rfl rfl (by exact hZ.out.there W7) (by exact hZ.out.size) (by exact hZ.out.one) ?_; generalize hW : World.setCells _ _ _ _ = W8; obtain ⟨hN, hb⟩ := hZ.out.new hW; clear hW hN; have hX8 := hid (hX7.out.below hb hX7.out.lt); have hT8 := hid (hT7.out.on (hb.block b hT7.out.lt)); have hb8 := hid (hb7.out.trans (hb.mono hb7.out.size)); have hr8 := hid (rown_onF hr7.out hb); clear hb; have c0 := hT8.out.cell (i := 0) rfl)
    | (go_at_call 13; refine (errNum_any _ _).mono ?_; rintro e w' ⟨rfl, rfl⟩)
    | ((with_reducible refine at_slot (some 78) ?_); refine wpL_loadH (by kernel_rfl) (.tmp 1) rfl rfl hh32.out hX8.out ?_)
    | ((with_reducible refine at_slot (some 79) ?_); refine wpL_buildH (by kernel_rfl) (.tmp 78) rfl rfl hh32.out ?_; obtain ⟨W9, hW9⟩ : ∃ V, W8.alloc (.cells (byteCells hh).toArray 33) = V := ⟨_, rfl⟩; have hb : Below W8.heap.size W8 W9 := (by rw [← hW9]; exact (Below.refl _ _).alloc (Nat.le_refl _) _); have hn9 := hid (show Holds W9 W8.heap.size 33 (byteCells hh) from by rw [← hW9]; exact Holds.new W8 33 (byteCells hh).toArray); rw [hW9]; have hX9 := hid (hX8.out.below hb hX8.out.lt); have hT9 := hid (hT8.out.on (hb.block b hT8.out.lt)); have hb9 := hid (hb8.out.trans (hb.mono hb8.out.size)); have hr9 := hid (rown_onF hr8.out hb); clear hb hW9)
    | (go_at_call 33; refine (SameHashs_any A4 1 c4 [hh] (some ⟨W8.heap.size, 0, none⟩) 1 W9.heap.size W9 (own_hashs hr9.out (fun x hx => by rw [List.mem_singleton.1 hx]; exact hh32.out)) (by decide) (hashs_one hh32.out hn9.out)).mono ?_; rintro e W10 ⟨rfl, m, rfl⟩)
    | fail)
  go_ret
  exact ⟨rfl, below_drewN hb9.out _⟩

end Go.Proofs.Ytpjfhbmegabafaa
namespace Go.Proofs.Ytpjfhbmegabafaa
open Go.RowKit
open Go.Lib (strCells strCells_length strCells_oneCell)
attribute [local irreducible] Sha.compress Sha.blocks Sha.sha Sha.pad

end Go.Proofs.Ytpjfhbmegabafaa
