/- append of a text's bytes, for longer rows. No function of the program is named here.
   Layer 2, the reference: Tag. -/
import Derived.Test.YtpjfhbmegabafaaLApFr
import Derived.Test.YtpjfhbmegabafaaLTagX
import Derived.Test.YtpjfhbmegabafaaLRefSha2
namespace Go.Proofs.Ytpjfhbmegabafaa
open Go.RowKit
open Go.Lib (strCells strCells_length strCells_oneCell)

/-- append of a text's bytes onto a row of bytes: where the new row lies, too. -/
theorem run_append_row2 {P : Program} {w : World} (t u ty e : TypeId) (i : TypeInfo) (ht : P.underlying t = some (.slice e)) (hu : P.underlying u = some .string) (hi : P.info? e = some i) (hz : i.zero = some (.int .u8 0))
    (hsize : i.size = 1) (hby : i.bytes = 1) {s : ByteArray} {A : Option Addr} {c : Nat} (hR : Row w e s A c) (p : ByteArray) (hmax : s.size + p.size ≤ 100000000000000) :
    ∃ A' c' w', (Builtin.append_ #[t, u] ty #[.slice A s.size c, .string p]).run P w = .ok (.slice A' (s ++ p).size c') w' ∧ Row w' e (s ++ p) A' c' ∧ w.grownBy w' (Value.slice A s.size c).ownBlock ∧
      Fresh w (Value.slice A s.size c).ownBlock (Value.slice A' (s ++ p).size c').ownBlock := by
  obtain ⟨v', w', hrun, hown, hg, hn⟩ := Go.Lib.run_append_own_string (P := P) w 0 t u ty e i ht hu hi hz hsize hby _ s.size (strCells s) hR p (by unfold maxLen; omega) (by omega) (Nat.zero_le _)
  rw [← strCells_append] at hown
  obtain ⟨A', c', rfl, hR'⟩ := row_form hown
  refine ⟨A', c', w', hrun, hR', hg, ?_⟩
  rcases hR.2 with ⟨hv, h0⟩ | ⟨g, cap, cur, hv, hb, hq, hnc, hcm, hcs, htake⟩
  · by_cases hp : p.size = 0
    · left
      have := hn.2 ⟨hv, hp⟩
      rw [this, hv]
    · right
      have hr := run_append_nil_string (P := P) w t u ty e i (.int .u8 0) ht hu hi hz p (by omega) (by omega) (by rw [hby]; omega)
      rw [← hv] at hr
      rw [hr] at hrun
      injection hrun with h1 h2
      rw [← h1]
      exact ⟨_, rfl, Nat.le_refl _⟩
  · injection hv with h1 _ h2
    subst h1 h2
    by_cases hroom : s.size + p.size ≤ c
    · left
      have hr := Go.Lib.run_append_room_string (P := P) w t u ty e i ht hu hi hsize g s.size c cur hq p hroom (by omega)
      rw [hr] at hrun
      injection hrun with h1 h2
      rw [← h1]
      rfl
    · right
      have hxl : (strCells s).length = s.size := strCells_length s
      have hr := Go.Lib.run_append_grow_string (P := P) w t u ty e i (.int .u8 0) ht hu hi hz ⟨g, 0, none⟩ s.size c (strCells s) (by rw [hsize, hxl]; omega) (hR.cells (g := g) rfl) p (by omega) (by omega) (by rw [hby]; exact growslice_fits (by omega) (by omega))
      rw [hr] at hrun
      injection hrun with h1 h2
      rw [← h1]
      exact ⟨_, rfl, Nat.le_refl _⟩

section
variable {P : Program} {ops : Array Oper} {o : Oper} {a : Act} {w : World} {Q : Exit → Act → World → Prop}
theorem wpList_append_row2 {rest : List Oper} (hgd : o.guard = none) (sl x : Operand) (t u : TypeId) (ho : o.op = .call { callee := .builtin .append, args := #[sl, x], argTypes := #[t, u] })
    (e : TypeId) (i : TypeInfo) (ht : P.underlying t = some (.slice e)) (hu : P.underlying u = some .string) (hi : P.info? e = some i) (hz : i.zero = some (.int .u8 0)) (hsize : i.size = 1) (hby : i.bytes = 1)
    (s p : ByteArray) (A : Option Addr) (c : Nat) (hs : a.eval sl = .slice A s.size c) (hx : a.eval x = .string p) (hR : Row w e s A c) (hmax : s.size + p.size ≤ 100000000000000) (sp : ByteArray) (hsp : s ++ p = sp)
    (h : ∀ A' c' w', Row w' e sp A' c' → w.grownBy w' (Value.slice A s.size c).ownBlock → Fresh w (Value.slice A s.size c).ownBlock (Value.slice A' sp.size c').ownBlock → wpList P ops Q rest (a.put o.dst (.slice A' sp.size c')) w') :
    wpList P ops Q (o :: rest) a w := by
  subst hsp
  refine wpList_plain hgd fun K hK => ?_
  obtain ⟨A', c', w', hr, h2, h3, h4⟩ := run_append_row2 (P := P) (w := w) t u o.type e i ht hu hi hz hsize hby hR p hmax
  unfold Oper.wp execOp
  simp only [ho, resolve, invoke, builtin, Sem.run_bind, Sem.run_pure, Result.andThen_ok, List.map_toArray, List.map_cons, List.map_nil, hs, hx, hr]
  exact hK _ _ (h A' c' w' h2 h3 h4)
end

end Go.Proofs.Ytpjfhbmegabafaa
namespace Go.Proofs.Ytpjfhbmegabafaa
open Go.RowKit
open Go.Lib (strCells strCells_length strCells_oneCell)
attribute [local irreducible] Sha.compress Sha.blocks Sha.sha Sha.pad

/-- What stands of the reference's Tag while it works. -/
structure TagQ (w wr : World) (T : ByteArray) (A : Option Addr) (c : Nat) : Prop where
  o : Holds wr w.heap.size 33 z32.toList
  row : Row wr 5 T A c
  own : ∀ k, (Value.slice A T.size c).ownBlock = some k → w.heap.size + 1 ≤ k
  bl : Below w.heap.size w wr

theorem TagQ.below {w wr w2 : World} {T : ByteArray} {A : Option Addr} {c : Nat} (h : TagQ w wr T A c) (hb : Below wr.heap.size wr w2) : TagQ w w2 T A c :=
  ⟨h.o.below hb h.o.lt, h.row.keep hb, h.own, h.bl.trans (hb.mono h.bl.size)⟩

theorem TagQ.more {w wr w2 : World} {T T2 : ByteArray} {A A2 : Option Addr} {c c2 : Nat} (h : TagQ w wr T A c) (hR : Row w2 5 T2 A2 c2) (hg : wr.grownBy w2 (Value.slice A T.size c).ownBlock)
    (hf : Fresh wr (Value.slice A T.size c).ownBlock (Value.slice A2 T2.size c2).ownBlock) : TagQ w w2 T2 A2 c2 := by
  have hlt := h.o.lt
  refine ⟨h.o.grown hg (fun e => ?_), hR, hf.ge h.own (by omega), h.bl.grown hg h.bl.size (fun k e => ?_)⟩
  · have := h.own _ e.symm
    omega
  · have := h.own _ e
    omega

set_option maxRecDepth 100000 in
set_option maxHeartbeats 2000000 in
theorem refTag_any (t : Int) (A : Option Addr) (n c : Nat) (xs : List ByteArray) (w : World) (hX : Texts w w.heap.size A n xs) (hn : n ≤ 10000000000000) (hs : ∀ s ∈ xs, s.size ≤ 140737488351232) :
    Calls Try.prog 38 #[.int .i64 t, .slice A n c] w fun e w' => e = .returned (.tuple #[(tagAns t xs).1, .int .i64 (tagAns t xs).2]) ∧ Below w.heap.size w w' := by
  obtain ⟨i0, hi, hz0, hz1, hz2⟩ := info_parts Try.infoU8
  obtain ⟨⟨v, r⟩, hans0⟩ : ∃ a, tagAns t xs = a := ⟨_, rfl⟩
  rw [hans0]
  have hans0' := hid hans0
  clear hans0
  obtain ⟨W1, hW1⟩ : ∃ W1, w.alloc (.cells z32 33) = W1 := ⟨_, rfl⟩
  have hH1 : Holds W1 w.heap.size 33 z32.toList := by rw [← hW1]; exact Holds.new w _ _
  have hb1 : Below w.heap.size w W1 := by rw [← hW1]; exact (Below.refl _ _).alloc (Nat.le_refl _) _
  have hs1 : W1.heap.size = w.heap.size + 1 := by rw [← hW1]; simp
  have hW1' := hid hW1
  have hH1' := hid hH1
  have hb1' := hid hb1
  have hs1' := hid hs1
  have hX' := hid hX
  have hlen := hid hX.len
  have hz1' : z32.all (·.oneCell') = true := by kernel_rfl
  have herr : ∀ wr W2, Holds wr w.heap.size 33 z32.toList → Below w.heap.size w wr → wr.setCells w.heap.size 0 z32.toList = W2 → Holds W2 w.heap.size 33 z32.toList ∧ Below w.heap.size w W2 := by
    rintro wr W2 h0 hb rfl
    have h1 := h0.put 0 z32.toList (Nat.le_refl _)
    rw [put_all _ _ rfl] at h1
    exact ⟨h1, below_setCells hb _ _ _ (Nat.le_refl _)⟩
  have herr' := hid herr
  have hbad : (t < 0 ∨ 4 < t ∨ 65536 < totS xs) → v = .agg z32 ∧ r = 200 := by
    intro hno
    have h := hans0'.out
    unfold tagAns at h
    rw [if_neg (by simp only [tagMay, decide_eq_true_eq]; omega)] at h
    exact ⟨(Prod.mk.inj h).1.symm, (Prod.mk.inj h).2.symm⟩
  have hbad' := hid hbad
  have hgood : (0 ≤ t ∧ t ≤ 4 ∧ totS xs ≤ 65536) → v = hashV (tagL t.toNat xs) ∧ r = 0 := by
    intro hyes
    have h := hans0'.out
    unfold tagAns at h
    rw [if_pos (by simp only [tagMay, decide_eq_true_eq]; exact hyes)] at h
    exact ⟨(Prod.mk.inj h).1.symm, (Prod.mk.inj h).2.symm⟩
  have hgood' := hid hgood
  clear hW1 hH1 hb1 hs1 hX herr hbad hgood
  by_cases hno : t < 0 ∨ 4 < t
  · have hth : W1.there w.heap.size 0 32 := hH1'.out.there 0 32 (by decide)
    have hv := hid (hbad'.out (by omega))
    go_enter Try.func38, Try.ntmps38
    by_cases ht0 : t < 0
    · go_wp2_with (first
        | ((with_reducible refine at_slot (some 4) ?_); refine wpList_run rfl (.pointer (some ⟨w.heap.size, 0, none⟩)) (w.alloc (.cells z32 33)) (by kernel_rfl) ?_; rw [hW1'.out])
        | ((with_reducible refine at_slot (some 15) ?_); refine wpList_run rfl (.agg z32) _ (by kernel_rfl) ?_)
        | ((with_reducible refine at_slot none ?_); refine wpList_store_mid rfl 33 (.tmp 4) (.tmp 15) rfl w.heap.size 0 z32 rfl rfl (by exact hth) (by exact Try.infoHash) (by exact hz1') ?_; generalize hW2 : World.setCells _ _ _ _ = W2))
      obtain ⟨hH2, hb2⟩ := herr'.out _ _ hH1'.out hb1'.out hW2
      exact bodyPost_ret (results_cell_tmp rfl _ _ w.heap.size 33 z32 (0, 0) _ rfl hH2 (.int .i64 200) rfl Try.underlying33 rfl (by exact Try.infoHash)) rfl ⟨by rw [hv.out.1, hv.out.2], hb2⟩
    · have ht4 : 4 < t := by omega
      go_wp2_with (first
        | ((with_reducible refine at_slot (some 4) ?_); refine wpList_run rfl (.pointer (some ⟨w.heap.size, 0, none⟩)) (w.alloc (.cells z32 33)) (by kernel_rfl) ?_; rw [hW1'.out])
        | ((with_reducible refine at_slot (some 15) ?_); refine wpList_run rfl (.agg z32) _ (by kernel_rfl) ?_)
        | ((with_reducible refine at_slot none ?_); refine wpList_store_mid rfl 33 (.tmp 4) (.tmp 15) rfl w.heap.size 0 z32 rfl rfl (by exact hth) (by exact Try.infoHash) (by exact hz1') ?_; generalize hW2 : World.setCells _ _ _ _ = W2))
      obtain ⟨hH2, hb2⟩ := herr'.out _ _ hH1'.out hb1'.out hW2
      exact bodyPost_ret (results_cell_tmp rfl _ _ w.heap.size 33 z32 (0, 0) _ rfl hH2 (.int .i64 200) rfl Try.underlying33 rfl (by exact Try.infoHash)) rfl ⟨by rw [hv.out.1, hv.out.2], hb2⟩
  · obtain ⟨t, rfl⟩ : ∃ k : Nat, t = k := ⟨t.toNat, by omega⟩
    have hn0 : ¬ (t : Int) < 0 := by omega
    have hn4 : ¬ 4 < (t : Int) := by omega
    have hmod : (t : Int) % 256 = (t : Int) := by omega
    have hq1 : TagQ w (W1.alloc (.cells #[.int .u8 (t : Int)] 5)) (oneB t) (some ⟨W1.heap.size, 0, none⟩) 1 := by
      refine ⟨hH1'.out.alloc _, ?_, fun k hk => ?_, hb1'.out.alloc hb1'.out.size _⟩
      · have h := World.ownsRow_lit (base := 0) (e := 5) (size := 1) W1 #[.int .u8 (t : Int)] 1 (Nat.zero_le _) (by decide) rfl
        have e : strCells (oneB t) = [.int .u8 (t : Int)] := by
          rw [← byte_small t (by omega)]
          rfl
        unfold Row
        rw [e]
        exact h
      · obtain rfl : W1.heap.size = k := by injection hk
        rw [hs1'.out]
        exact Nat.le_refl _
    have hq1' := hid hq1
    clear hq1
    go_enter Try.func38, Try.ntmps38
    go_wp2_with ((with_reducible refine at_slot (some 4) ?_); refine wpList_run rfl (.pointer (some ⟨w.heap.size, 0, none⟩)) (w.alloc (.cells z32 33)) (by kernel_rfl) ?_; rw [hW1'.out])
    go_loopw [6, 7, 8] (fun sz out i wr => ∃ (k : Nat) (T : ByteArray) (A' : Option Addr) (c' : Nat), k ≤ n ∧ i = .int .i64 (k : Int) ∧ sz = .int .i64 (totS (xs.take k) : Int) ∧ out = .slice A' T.size c' ∧ T.data.toList = tagL t (xs.take k) ∧ totS (xs.take k) ≤ 65536 ∧ TagQ w wr T A' c') (fun _ _ i _ => n - (intOf i).toNat)
    case atStart => exact ⟨0, oneB t, _, _, Nat.zero_le _, rfl, rfl, rfl, rfl, Nat.zero_le _, hq1'.out⟩
    case round =>
      obtain ⟨k, T, A1, c1, hk, rfl, rfl, rfl, hT, htk, hq⟩ := hrel
      have hTz : T.size = 1 + 4 * (min k xs.length) + totS (xs.take k) := by
        rw [← data_length T, hT, tagL_length, List.length_take]
      by_cases hlt : k < n
      · obtain ⟨p, rfl, hB, x, hxm, hx, hcell0⟩ := hX'.out.get hlt
        have hB' : (p.add k).block < w.heap.size := by rw [add_block]; exact hB
        have hcell := (hq.bl.cell hB').trans hcell0
        have hc0' := hid hcell0
        have hxs := hs x hxm
        have hnx := totS_next hx
        have hle := totS_take xs (k + 1)
        have hkn : (k : Int) < (n : Int) := by omega
        have hT1 := tagL_next (t := t) hx
        rw [← hT] at hT1
        have s1 := IntWalk.i64_in (65536 - (totS (xs.take k) : Int)) (by omega)
        have hnx' := hid hnx
        have hle' := hid hle
        have hq' := hid hq
        have hT1' := hid hT1
        have hTz' := hid hTz
        have hxlt : k < xs.length := (List.getElem?_eq_some_iff.1 hx).1
        have hxlt' := hid hxlt
        generalize htt : totS (xs.take k) = tt at *
        have htt' := hid htt
        clear hx hnx hle hq hT hT1 hTz hcell0 htt hxlt
        by_cases hbig : 65536 - (tt : Int) < (x.size : Int)
        · have hv := hid (hbad'.out (by have h1 := hnx'.out; have h2 := hle'.out; omega))
          have hth : wr.there w.heap.size 0 32 := hq'.out.o.there 0 32 (by decide)
          go_wp2_with (first
            | ((with_reducible refine at_slot (some 33) ?_); refine wpList_run rfl (.agg z32) _ (by kernel_rfl) ?_)
            | ((with_reducible refine at_slot none ?_); refine wpList_store_mid rfl 33 (.tmp 4) (.tmp 33) rfl w.heap.size 0 z32 rfl rfl (by exact hth) (by exact Try.infoHash) (by exact hz1') ?_; generalize hW2 : World.setCells _ _ _ _ = W2))
          obtain ⟨hH2, hb2⟩ := herr'.out _ _ hq'.out.o hq'.out.bl hW2
          exact bodyPost_ret (results_cell_tmp rfl _ _ w.heap.size 33 z32 (0, 0) _ rfl hH2 (.int .i64 200) rfl Try.underlying33 rfl (by exact Try.infoHash)) rfl ⟨by rw [hv.out.1, hv.out.2], hb2⟩
        · have s2 := IntWalk.i64_in ((tt : Int) + (x.size : Int)) (by omega)
          have hbe := hid (fun w => Be_any (x.size : Int) 4 4 rfl (by omega) x.size rfl (by omega) w)
          have hTb : T.size ≤ 50000000000000 := by have := hTz'.out; omega
          go_wp2_with fail
          refine (hbe.out _).mono ?_
          rintro e W3 ⟨rfl, hb3⟩
          have hq3 := hq'.out.below hb3
          have hcell3 := (hq3.bl.cell hB').trans hc0'.out
          have hR3 := hq3.row
          have hbz := be_size 4 x.size
          obtain ⟨E, hE⟩ : ∃ E, be 4 x.size = E := ⟨_, rfl⟩
          rw [hE] at hbz ⊢
          have hE' := hid hE
          have hq3' := hid hq3
          have hTE : (T ++ E).size ≤ 50000000000004 := by rw [ByteArray.size_append]; omega
          obtain ⟨TE, hTE0⟩ : ∃ TE, T ++ E = TE := ⟨_, rfl⟩
          rw [hTE0] at hTE
          have hTE' := hid hTE0
          obtain ⟨TX, hTX0⟩ : ∃ TX, TE ++ x = TX := ⟨_, rfl⟩
          have hTX' := hid hTX0
          clear hE hTE0 hTX0 hq3
          go_wp2_with (first
            | ((with_reducible refine at_slot (some 48) ?_); (refine wpList_append_row2 rfl (.tmp 41) (.tmp 47) 51 9 rfl 5 i0 Try.underlying51 Try.underlying9 hi hz0 hz1 hz2 T E A1 c1 rfl rfl (by exact hR3) (by omega) TE hTE'.out ?_); intro A4 c4 w4 hR4 hg4 hf4; have hq4 := hid (hq3'.out.more hR4 hg4 hf4); have hcell4 := (hq4.out.bl.cell hB').trans hc0'.out)
            | ((with_reducible refine at_slot (some 54) ?_); (refine wpList_append_row2 rfl (.tmp 49) (.tmp 53) 51 9 rfl 5 i0 Try.underlying51 Try.underlying9 hi hz0 hz1 hz2 TE x A4 c4 rfl rfl (by exact hR4) (by omega) TX hTX'.out ?_); intro A5 c5 w5 hR5 hg5 hf5; have hq5 := hid (hq4.out.more hR5 hg5 hf5)))
          go_roundw
          case rel =>
            have h1 := hnx'.out
            refine ⟨k + 1, TX, A5, c5, by omega, by go_num, ?_, rfl, ?_, by omega, hq5.out⟩
            · rw [h1]
              go_num
            · rw [hT1'.out, ← hTX'.out, ← hTE'.out, ← hE'.out]
              simp only [ByteArray.data_append, Array.toList_append]
              rfl
          case measure => simp [intOf]; omega
      · obtain rfl : k = n := by omega
        have e : xs.take k = xs := List.take_of_length_le (by rw [hlen.out]; exact Nat.le_refl _)
        rw [e] at hT htk hTz ⊢
        have hv := hid (hgood'.out (by omega))
        have hcv := run_convert_row (P := Try.prog) (w := wr) (e := 5) 51 9 Try.underlying51 Try.underlying5 Try.underlying9 (n := T.size) rfl hq.row
        have hTs : T.size < 1152921504606846976 := by rw [hTz]; have := Nat.min_le_left k xs.length; omega
        have hq' := hid hq
        have hT' := hid hT
        clear hq hT hTz
        go_wp2_with fail
        refine (rsha_any T _ hTs).mono ?_
        rw [hT'.out]
        rintro e W3 ⟨rfl, hb3⟩
        have hq3 := hq'.out.below hb3
        have hcl : (byteCells (Sha.sha (tagL t xs))).length = 32 := by rw [byteCells_length, sha_length']
        have hth : W3.there w.heap.size 0 (byteCells (Sha.sha (tagL t xs))).toArray.size := hq3.o.there 0 _ (by rw [List.size_toArray, hcl]; decide)
        have hrs := hq3.o.put 0 (byteCells (Sha.sha (tagL t xs))) (by rw [hcl]; decide)
        rw [put_all _ _ (by rw [hcl]; decide)] at hrs
        have hb4 := below_setCells hq3.bl w.heap.size 0 (byteCells (Sha.sha (tagL t xs))) (Nat.le_refl _)
        have h1c := all_oneCell_toArray (byteCells_one (Sha.sha (tagL t xs)))
        have hrs' := hid hrs
        have hb4' := hid hb4
        clear hrs hb4 hq3
        rename_i hK1
        refine hK1 _ _ ?_
        refine wpList_store_mid rfl 33 (.tmp 4) (.tmp 57) rfl w.heap.size 0 (byteCells (Sha.sha (tagL t xs))).toArray rfl rfl (by exact hth) (by rw [Try.infoHash, List.size_toArray, hcl]) (by exact h1c) ?_
        generalize hW4 : World.setCells _ _ _ _ = W4
        have e4 : W3.setCells w.heap.size 0 (byteCells (Sha.sha (tagL t xs))) = W4 := hW4
        rw [e4] at hrs' hb4'
        clear hW4 e4 hth h1c
        go_wp2
        exact bodyPost_ret (results_cell_tmp rfl _ _ w.heap.size 33 _ (0, 0) _ rfl hrs'.out (.int .i64 0) rfl Try.underlying33 rfl (by rw [Try.infoHash, List.size_toArray, hcl])) rfl ⟨by rw [hv.out.1, hv.out.2]; rfl, hb4'.out⟩

end Go.Proofs.Ytpjfhbmegabafaa
