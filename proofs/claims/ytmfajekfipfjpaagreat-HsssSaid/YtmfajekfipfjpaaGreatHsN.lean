/- Layer 6: Hsss. -/
import Derived.Test.YtmfajekfipfjpaaGreatHsP
import Derived.Test.YtmfajekfipfjpaaGreatHsS
import Derived.Test.YtmfajekfipfjpaaGreatHsO
import Derived.Test.YtmfajekfipfjpaaGreatRefBe
set_option maxRecDepth 100000
namespace Go.Proofs.YtmfajekfipfjpaaGreat
open Go.RowKit
open Go.Lib (strCells strCells_length strCells_oneCell)
attribute [local irreducible] Sha.compress Sha.blocks Sha.sha Sha.pad

theorem hss_eql (o ht : Int) (id seed : ByteArray) (nx : Int) (w : World) : (binOp .eql 23 (.agg (keyC o ht id seed nx).toArray) (.agg (keyC o ht id seed nx).toArray)).run Tryz.prog w = .ok (.bool true) w := by
  have hS : Tryz.prog.underlying 23 = some (.struct (Tryz.prog.fieldsOf 23)) := by kernel_rfl
  have hp : Tryz.prog.stoodInHeld 23 = false := by kernel_rfl
  have hi : ∀ (a : Int) (w : World), (Op.equalIn 9999 3 (.int .i64 a) (.int .i64 a)).run Tryz.prog w = .ok true w := fun a w => by
    have h := run_equalIn_int (P := Tryz.prog) w 9998 3 .i64 .i64 a a Tryz.underlying3
    rw [beq_self_eq_true] at h
    exact h
  have hs : ∀ (a : ByteArray) (w : World), (Op.equalIn 9999 9 (.string a) (.string a)).run Tryz.prog w = .ok true w := fun a w => by
    have h := run_equalIn_string (P := Tryz.prog) w 9998 9 a a Tryz.underlying9
    rw [beq_self_eq_true] at h
    exact h
  rw [run_eql_struct, show (10000 : Nat) = 9999 + 1 from rfl, run_equalIn_struct w 9999 _ _ _ hS hp]
  simp only [Program.fieldsOf, Tryz.underlying23]
  unfold keyC
  go_simp
theorem hss_guard (op : BinOp) (x y : Operand) (cs ds : Array Value) (w : World) : (eqGuard op 23 x y (.agg cs) (.agg ds)).run Tryz.prog w = .ok () w := run_eqGuard_agg w op 23 x y _ _ (by kernel_rfl)
/-- A key's cells that equal themselves. -/
structure HssE (cs : List Value) : Prop extends KeyH cs where
  eql : ∀ W, (binOp .eql 23 (.agg cs.toArray) (.agg cs.toArray)).run Tryz.prog W = .ok (.bool true) W
theorem hssE (o ht : Int) (id seed : ByteArray) (nx : Int) : HssE (keyC o ht id seed nx) := ⟨⟨rfl, keyC_one _ _ _ _ _, sizeHss, sizeHss⟩, hss_eql o ht id seed nx⟩
theorem zHssE : HssE zk := hssE _ _ _ _ _
theorem yieldsIf_hss {ops : Array Oper} {S : World → Prop} {op : Oper} {a : Act} {cs : List Value} (hc : HssE cs) (hw : Region.wanted op (yielded ops a.tmps) = true) (x y : Operand) (ty : TypeId) (ho : op.op = .binOp .eql 23 x y ty) (hx : a.eval x = .agg cs.toArray) (hy : a.eval y = .agg cs.toArray) : YieldsIf Tryz.prog ops S op (.bool true) a :=
  .inl ⟨hw, fun w _ => by simp only [execOp, ho, hx, hy, Sem.run_bind, hss_guard, hc.eql, Result.andThen_ok, Sem.run_pure]⟩

/-- Program and document answer alike. -/
theorem hss_same (o ht : Int) (id seed : ByteArray) (nx : Int) (msg : ByteArray) : ∃ (pa sa : ByteArray) (pe se lf : Int) (ks : List Value), HssE ks ∧
    (∀ W, Calls Tryz.prog 4 #[.agg (keyC o ht id seed nx).toArray] W fun e w' => e = .returned (.tuple #[.string pa, .int .i64 pe]) ∧ Below W.heap.size W w') ∧
    (∀ W, Calls Tryz.prog 5 #[.agg (keyC o ht id seed nx).toArray] W fun e w' => e = .returned (.tuple #[.string pa, .int .i64 pe]) ∧ Below W.heap.size W w') ∧
    (∀ W, Calls Tryz.prog 6 #[.agg (keyC o ht id seed nx).toArray, .string msg] W fun e w' => e = .returned (.tuple #[.string sa, .agg ks.toArray, .int .i64 se]) ∧ Below W.heap.size W w') ∧
    (∀ W, Calls Tryz.prog 7 #[.agg (keyC o ht id seed nx).toArray, .string msg] W fun e w' => e = .returned (.tuple #[.string sa, .agg ks.toArray, .int .i64 se]) ∧ Below W.heap.size W w') ∧
    (∀ W, Calls Tryz.prog 9 #[.agg (keyC o ht id seed nx).toArray] W fun e w' => e = .returned (.int .i64 lf) ∧ Below W.heap.size W w') ∧
    (∀ W, Calls Tryz.prog 10 #[.agg (keyC o ht id seed nx).toArray] W fun e w' => e = .returned (.int .i64 lf) ∧ Below W.heap.size W w') := by
  cases hok : hOk o ht id seed nx with
  | false => exact ⟨⟨#[]⟩, ⟨#[]⟩, 600, 600, 0, zk, zHssE, hPublic_bad o ht id seed nx hok, rHssPublic_bad o ht id seed nx hok, hSign_bad1 o ht id seed nx hok msg, rHssSign_bad1 o ht id seed nx hok msg, hLeft_bad o ht id seed nx hok, rLeft_bad o ht id seed nx hok⟩
  | true =>
    obtain ⟨p, kd, k, q, rfl, hp, rfl, h1, h5, hi, hs, rfl, hq⟩ := hOk_parts hok
    have a1 := hPublic_good p kd k q hp h1 h5 id seed hi hs hq hok
    have a2 := rHssPublic_good p kd k q hp h1 h5 id seed hi hs hq hok
    have a3 := hLeft_good kd k q h5 hq id seed hok
    have a4 := rLeft_good kd k q h5 hq id seed hok
    by_cases hm : msg.size ≤ 65536
    · by_cases he : q = 2 ^ (2 * k)
      · exact ⟨_, _, _, _, _, zk, zHssE, a1, a2, hSign_spent kd k h5 id seed q hok msg hm he, rHssSign_spent kd k h5 id seed q hok msg hm he, a3, a4⟩
      · have hq' : q < 2 ^ (2 * k) := by omega
        exact ⟨_, _, _, _, _, _, hssE _ _ _ _ _, a1, a2, hSign_good p kd k q hp h1 h5 id seed hi hs hq' hok msg hm, rHssSign_good p kd k q hp h1 h5 id seed hi hs hq' hok msg hm, a3, a4⟩
    · exact ⟨_, _, _, _, _, zk, zHssE, a1, a2, hSign_bad2 (kd : Int) (k : Int) id seed (q : Int) hok msg (by omega), rHssSign_bad2 (kd : Int) (k : Int) id seed (q : Int) hok msg (by omega), a3, a4⟩

section
variable {H : Type} {enc : TypeId × Value → H} {w : World} {base : Nat} {spare : Nat → Bool} {held : Bool}
open Go.ChangeShapes Go.WideShapes Go.Deep
theorem list_five {α : Type _} : ∀ {l : List α}, l.length = 5 → ∃ a b c d e, l = [a, b, c, d, e]
  | [a, b, c, d, e], _ => ⟨a, b, c, d, e, rfl⟩
theorem open_hss {fuel : Nat} {cs : List Value} {x : DataW H × List MemPlace} (h : DataW.trod enc Tryz.prog w base spare held fuel 23 cs = some x) : ∃ (o ht : Int) (id seed : ByteArray) (nx : Int), cs = keyC o ht id seed nx := by
  have hC : Tryz.prog.cellsOf 23 = 5 := by kernel_rfl
  have hI : Tryz.prog.cellsOf 3 = 1 := by kernel_rfl
  have hI2 : Tryz.prog.cellsOf 9 = 1 := by kernel_rfl
  obtain ⟨ys, n, _, _, hl, hlen, hf⟩ := DataW.trod_struct Tryz.underlying23 h
  rw [hC] at hl
  have hlen' : ys.length = 5 := hlen
  have yy : ∀ i (hi : i < 5), ys[i]? = some (ys[i]'(by omega)) := fun i hi => List.getElem?_eq_getElem (by omega)
  have g0 := hf 0 _ rfl
  change DataW.trod enc Tryz.prog w base spare held n 3 ((cs.drop 0).take (Tryz.prog.cellsOf 3)) = _ at g0
  rw [hI] at g0
  have g1 := hf 1 _ rfl
  change DataW.trod enc Tryz.prog w base spare held n 3 ((cs.drop 1).take (Tryz.prog.cellsOf 3)) = _ at g1
  rw [hI] at g1
  have g2 := hf 2 _ rfl
  change DataW.trod enc Tryz.prog w base spare held n 9 ((cs.drop 2).take (Tryz.prog.cellsOf 9)) = _ at g2
  rw [hI2] at g2
  have g3 := hf 3 _ rfl
  change DataW.trod enc Tryz.prog w base spare held n 9 ((cs.drop 3).take (Tryz.prog.cellsOf 9)) = _ at g3
  rw [hI2] at g3
  have g4 := hf 4 _ rfl
  change DataW.trod enc Tryz.prog w base spare held n 3 ((cs.drop 4).take (Tryz.prog.cellsOf 3)) = _ at g4
  rw [hI] at g4
  obtain ⟨a0, h0, _, _⟩ := DataW.trod_int Tryz.underlying3 (g0.trans (yy 0 (by omega)))
  obtain ⟨a1, h1, _, _⟩ := DataW.trod_int Tryz.underlying3 (g1.trans (yy 1 (by omega)))
  obtain ⟨a2, h2, _, _⟩ := DataW.trod_string Tryz.underlying9 (g2.trans (yy 2 (by omega)))
  obtain ⟨a3, h3, _, _⟩ := DataW.trod_string Tryz.underlying9 (g3.trans (yy 3 (by omega)))
  obtain ⟨a4, h4, _, _⟩ := DataW.trod_int Tryz.underlying3 (g4.trans (yy 4 (by omega)))
  refine ⟨a0, a1, a2, a3, a4, ?_⟩
  obtain ⟨c0, c1, c2, c3, c4, rfl⟩ := list_five hl
  simp at h0 h1 h2 h3 h4
  rw [h0, h1, h2, h3, h4]
  rfl
end

set_option maxHeartbeats 4000000 in
theorem Hsss_law {w : World} (o ht : Int) (id seed : ByteArray) (nx : Int) (msg : ByteArray) (_hm : msg.size ≤ 140737488351232) :
    Calls Tryz.prog 3 #[.agg #[.int .i64 o, .int .i64 ht, .string id, .string seed, .int .i64 nx], .string msg] w fun e w' => e = .returned (.bool true) ∧ Below w.heap.size w w' := by
  obtain ⟨hh, hhe⟩ : ∃ hh, min ht 2 = hh := ⟨_, rfl⟩
  obtain ⟨pa, sa, pe, se, lf, ks, hks, hP, hR, hS, hV, hLf, hLr⟩ := hss_same o hh id seed nx msg
  obtain ⟨kc, hkc⟩ : ∃ kc, keyC o ht id seed nx = kc := ⟨_, rfl⟩
  obtain ⟨kx, hkx⟩ : ∃ kx, keyC o hh id seed nx = kx := ⟨_, rfl⟩
  rw [hkx] at hP hR hS hV hLf hLr
  have hLf := hid hLf
  have hLr := hid hLr
  have hP := hid hP
  have hR := hid hR
  have hS := hid hS
  have hV := hid hV
  have hks := hid hks
  have hCc := hid (show KeyH kc from by rw [← hkc]; exact (hssE _ _ _ _ _).toKeyH)
  have hCx := hid (show KeyH kx from by rw [← hkx]; exact (hssE _ _ _ _ _).toKeyH)
  have k1 := hid (show kc[1]? = some (.int .i64 ht) from by rw [← hkc]; rfl)
  have hset := hid (show kc.set 1 (.int .i64 hh) = kx from by rw [← hkc, ← hkx]; rfl)
  have hA' := hid (show w.alloc (.cells #[.int .i64 o, .int .i64 ht, .string id, .string seed, .int .i64 nx] 23) = w.alloc (.cells kc.toArray 23) from by rw [← hkc]; rfl)
  obtain ⟨W0, hW0⟩ : ∃ W0, w.alloc (.cells kc.toArray 23) = W0 := ⟨_, rfl⟩
  rw [hW0] at hA'
  have hK0 := hid (show Holds W0 w.heap.size 23 kc from by rw [← hW0]; exact Holds.new _ _ kc.toArray)
  have hB0 := hid (show Below w.heap.size w W0 from by rw [← hW0]; exact (Below.refl _ _).alloc (Nat.le_refl _) _)
  have hs0 : W0.heap.size = w.heap.size + 1 := by rw [← hW0]; simp
  have hs0' := hid hs0
  clear hkc hkx hW0 hs0
  go_enter Tryz.func3, Tryz.ntmps3
  go_wp2_with (first
    | ((with_reducible refine at_slot (some 22) ?_); obtain ⟨q, hq⟩ : ∃ q, W0.heap.size = q := ⟨_, rfl⟩; have hqw : w.heap.size < q := (by have := hs0'.out; omega); rw [hq] at hX1 d1 f1 ⊢; obtain ⟨W2, hW2⟩ : ∃ W2, W1.setCell ⟨q, 1, none⟩ (.int .i64 hh) = W2 := ⟨_, rfl⟩; have hX2' : W1.setCells q 1 [.int .i64 hh] = W2 := hW2; have hX2 := hid (show Holds W2 q 23 kx from by rw [← hset.out, ← hW2]; exact hX1.out.set 1 _); have hB2 := hid (below_put hB1.out (by omega) hX2'); rw [hW2]; clear hW2 hX2' hX1 hB1 hK1 c1 d1 f1 hq; refine wpList_load_mid rfl 23 (.tmp 5) rfl q 0 rfl kx _ (by exact h_all hX2.out) Tryz.underlying23 rfl (by exact hCx.out.size') ?_)
    | ((with_reducible refine at_slot (some 2) ?_); refine wpList_run rfl (.pointer (some ⟨w.heap.size, 0, none⟩)) (w.alloc (.cells #[.int .i64 o, .int .i64 ht, .string id, .string seed, .int .i64 nx] 23)) (by kernel_rfl) ?_; rw [hA'.out])
    | ((with_reducible refine at_slot (some 16) ?_); refine wpList_load_mid rfl 23 (.tmp 2) rfl w.heap.size 0 rfl kc _ (by exact h_all hK0.out) Tryz.underlying23 rfl (by exact hCc.out.size') ?_)
    | ((with_reducible refine at_slot (some 5) ?_); refine wpList_run rfl (.pointer (some ⟨W0.heap.size, 0, none⟩)) (W0.alloc (.cells zk.toArray 23)) (by kernel_rfl) ?_)
    | ((with_reducible refine at_slot none ?_); refine wpList_store_mid rfl 23 (.tmp 5) (.tmp 16) rfl W0.heap.size 0 kc.toArray rfl rfl (by exact hsk_there W0 _ hCc.out.len) (by exact hCc.out.size) (by exact hCc.out.one) ?_; generalize hW : World.setCells _ _ _ _ = W1; obtain ⟨hN, hb⟩ := hsk_new hCc.out.len hW; have hK1 := zon hb hK0; have hB1 := zup hb hB0; have hX1 := hid hN; clear hb hK0 hB0 hN; have c1 := hK1.out.c 1 _ k1.out; have d1 := hX1.out.c 1 _ k1.out; have f1 := hX1.out.frozen 1; clear hW)
    | fail)
  refine (hP.out _).mono ?_
  rintro e W3 ⟨rfl, hb⟩
  have hX3 := zon hb hX2
  have hB3 := zup hb hB2
  clear hb hX2 hB2
  go_wp2_with (first
    | ((with_reducible refine at_slot (some 27) ?_); refine wpList_load_mid rfl 23 (.tmp 5) rfl q 0 rfl kx _ (by exact h_all hX3.out) Tryz.underlying23 rfl (by exact hCx.out.size') ?_)
    | fail)
  refine (hR.out _).mono ?_
  rintro e W4 ⟨rfl, hb⟩
  have hX4 := zon hb hX3
  have hB4 := zup hb hB3
  clear hb hX3 hB3
  go_wp2_with (first
    | ((with_reducible refine at_slot (some 32) ?_); refine wpList_load_mid rfl 23 (.tmp 5) rfl q 0 rfl kx _ (by exact h_all hX4.out) Tryz.underlying23 rfl (by exact hCx.out.size') ?_)
    | fail)
  refine (hS.out _).mono ?_
  rintro e W5 ⟨rfl, hb⟩
  have hX5 := zon hb hX4
  have hB5 := zup hb hB4
  clear hb hX4 hB4
  rename_i hK1; refine hK1 _ _ ?_; clear hK1
  go_wp2_with (first
    | ((with_reducible refine at_slot (some 11) ?_); refine wpList_run rfl (.pointer (some ⟨W5.heap.size, 0, none⟩)) (W5.alloc (.cells zk.toArray 23)) (by kernel_rfl) ?_)
    | ((with_reducible refine at_slot none ?_); refine wpList_store_mid rfl 23 (.tmp 11) (.tmp 36) rfl W5.heap.size 0 ks.toArray rfl rfl (by exact hsk_there W5 _ hks.out.len) (by exact hks.out.size) (by exact hks.out.one) ?_; generalize hW : World.setCells _ _ _ _ = W6; obtain ⟨hN, hb⟩ := hsk_new hks.out.len hW; have hX6 := zon hb hX5; have hB6 := zup hb hB5; have hS6 := hid hN; clear hb hX5 hB5 hN; clear hW)
    | ((with_reducible refine at_slot (some 39) ?_); refine wpList_load_mid rfl 23 (.tmp 5) rfl q 0 rfl kx _ (by exact h_all hX6.out) Tryz.underlying23 rfl (by exact hCx.out.size') ?_)
    | fail)
  refine (hV.out _).mono ?_
  rintro e W7 ⟨rfl, hb⟩
  have hX7 := zon hb hX6
  have hB7 := zup hb hB6
  have hS7 := zon hb hS6
  clear hb hX6 hB6 hS6
  rename_i hK1; refine hK1 _ _ ?_; clear hK1
  go_wp2_with (first
    | ((with_reducible refine at_slot (some 14) ?_); refine wpList_run rfl (.pointer (some ⟨W7.heap.size, 0, none⟩)) (W7.alloc (.cells zk.toArray 23)) (by kernel_rfl) ?_)
    | ((with_reducible refine at_slot none ?_); refine wpList_store_mid rfl 23 (.tmp 14) (.tmp 43) rfl W7.heap.size 0 ks.toArray rfl rfl (by exact hsk_there W7 _ hks.out.len) (by exact hks.out.size) (by exact hks.out.one) ?_; generalize hW : World.setCells _ _ _ _ = W8; obtain ⟨hN, hb⟩ := hsk_new hks.out.len hW; have hX8 := zon hb hX7; have hB8 := zup hb hB7; have hS8 := zon hb hS7; have hV8 := hid hN; clear hb hX7 hB7 hS7 hN; clear hW)
    | fail)
  have hb : Below W8.heap.size W8 W8.drew := (Below.refl _ _).drew
  have hX9 := zon hb hX8
  have hB9 := zup hb hB8
  have hS9 := zon hb hS8
  have hV9 := zon hb hV8
  clear hb hX8 hB8 hS8 hV8
  refine wp_region_held_drew (S := fun V => Holds V q 23 kx ∧ Holds V W5.heap.size 23 ks ∧ Holds V W7.heap.size 23 ks) (by kernel_rfl) (by exact ⟨hX9.out, hS9.out, hV9.out⟩) (fun zH => ?_)
  generalize W8.drew = W9 at *
  refine tkx 0 (.string pa) zH ?_; simp only [lp]
  refine tkx 1 (.string pa) zH ?_; simp only [lp]
  refine tkx 2 (.bool true) zH ?_; simp only [lp]
  refine tkx 3 (.bool true) zH ?_; simp only [lp]
  refine tkx 4 (.int .i64 pe) zH ?_; simp only [lp]
  refine tkx 6 (.int .i64 pe) zH ?_; simp only [lp]
  refine wpAnyH_ready (rs := [5]) (by kernel_rfl) (by simp) (AllReadyH.cons rfl (fun K hK => ?_) AllReadyH.nil)
  have hK' := hid hK
  clear hK
  rw [if_pos (by kernel_rfl)]
  simp only [ly1, ly2, ly3]
  go_simp
  refine (errNum_any _ _).mono ?_
  rintro e w' ⟨rfl, rfl⟩
  refine hK'.out _ _ (by exact ⟨hX9.out, hS9.out, hV9.out⟩) (fun zH => ?_)
  clear hK' K
  refine tkx 7 (.bool true) zH ?_; simp only [lp]
  refine tkx 8 (.bool true) zH ?_; simp only [lp]
  refine tkx 9 (.bool true) zH ?_; simp only [lp]
  refine tkx 10 (.string sa) zH ?_; simp only [lp]
  refine tkx 11 (.string sa) zH ?_; simp only [lp]
  refine tkx 12 (.bool true) zH ?_; simp only [lp]
  refine tkx 13 (.bool true) zH ?_; simp only [lp]
  refine tkx 14 (.bool true) zH ?_; simp only [lp]
  refine tkx 15 (.agg ks.toArray) zH ?_ (hy := yieldsIf_load_any (by kernel_rfl) 23 (.tmp 11) rfl ⟨W5.heap.size, 0, none⟩ rfl ks _ (fun V hS => h_any hS.2.1) Tryz.underlying23 rfl (by exact hks.out.size')); simp only [lp]
  refine tkx 16 (.agg ks.toArray) zH ?_ (hy := yieldsIf_load_any (by kernel_rfl) 23 (.tmp 14) rfl ⟨W7.heap.size, 0, none⟩ rfl ks _ (fun V hS => h_any hS.2.2) Tryz.underlying23 rfl (by exact hks.out.size')); simp only [lp]
  refine tkx 17 (.bool true) zH ?_ (hy := yieldsIf_hss hks.out (by kernel_rfl) (.tmp 60) (.tmp 61) _ rfl rfl rfl); simp only [lp]
  refine tkx 18 (.bool true) zH ?_; simp only [lp]
  refine tkx 19 (.bool true) zH ?_; simp only [lp]
  refine tkx 20 (.int .i64 se) zH ?_; simp only [lp]
  refine tkx 22 (.int .i64 se) zH ?_; simp only [lp]
  refine wpAnyH_ready (rs := [21]) (by kernel_rfl) (by simp) (AllReadyH.cons rfl (fun K hK => ?_) AllReadyH.nil)
  have hK' := hid hK
  clear hK
  rw [if_pos (by kernel_rfl)]
  simp only [ly1, ly2, ly3]
  go_simp
  refine (errNum_any _ _).mono ?_
  rintro e w' ⟨rfl, rfl⟩
  refine hK'.out _ _ (by exact ⟨hX9.out, hS9.out, hV9.out⟩) (fun zH => ?_)
  clear hK' K
  refine tkx 23 (.bool true) zH ?_; simp only [lp]
  refine tkx 24 (.bool true) zH ?_; simp only [lp]
  refine tkx 25 (.bool true) zH ?_; simp only [lp]
  refine tkx 26 (.agg kx.toArray) zH ?_ (hy := yieldsIf_load_any (by kernel_rfl) 23 (.tmp 5) rfl ⟨q, 0, none⟩ rfl kx _ (fun V hS => h_any hS.1) Tryz.underlying23 rfl (by exact hCx.out.size')); simp only [lp]
  refine tkx 28 (.agg kx.toArray) zH ?_ (hy := yieldsIf_load_any (by kernel_rfl) 23 (.tmp 5) rfl ⟨q, 0, none⟩ rfl kx _ (fun V hS => h_any hS.1) Tryz.underlying23 rfl (by exact hCx.out.size')); simp only [lp]
  refine wpAnyH_ready (rs := [27]) (by kernel_rfl) (by simp) (AllReadyH.cons rfl (fun K hK => ?_) AllReadyH.nil)
  have hK' := hid hK
  clear hK
  rw [if_pos (by kernel_rfl)]
  simp only [ly1, ly2, ly3]
  go_simp
  refine (hLf.out _).mono ?_
  rintro e W10 ⟨rfl, hb⟩
  have hX10 := zon hb hX9
  have hB10 := zup hb hB9
  have hS10 := zon hb hS9
  have hV10 := zon hb hV9
  clear hb hX9 hB9 hS9 hV9
  refine hK'.out _ _ (by exact ⟨hX10.out, hS10.out, hV10.out⟩) (fun zH => ?_)
  clear hK' K
  refine wpAnyH_ready (rs := [29]) (by kernel_rfl) (by simp) (AllReadyH.cons rfl (fun K hK => ?_) AllReadyH.nil)
  have hK' := hid hK
  clear hK
  rw [if_pos (by kernel_rfl)]
  simp only [ly1, ly2, ly3]
  go_simp
  refine (hLr.out _).mono ?_
  rintro e W11 ⟨rfl, hb⟩
  have hX11 := zon hb hX10
  have hB11 := zup hb hB10
  have hS11 := zon hb hS10
  have hV11 := zon hb hV10
  clear hb hX10 hB10 hS10 hV10
  refine hK'.out _ _ (by exact ⟨hX11.out, hS11.out, hV11.out⟩) (fun zH => ?_)
  clear hK' K
  refine tkx 30 (.bool true) zH ?_; simp only [lp]
  refine tkx 31 (.bool true) zH ?_; simp only [lp]
  refine tkx 32 (.bool true) zH ?_; simp only [lp]
  refine wpAnyH_ready (rs := [33]) (by kernel_rfl) (by simp) (AllReadyH.cons rfl (fun K hK => ?_) AllReadyH.nil)
  have hK' := hid hK
  clear hK
  rw [if_pos (by kernel_rfl)]
  simp only [ly1, ly2, ly3]
  go_simp
  refine (awake6_any _).mono ?_
  rintro e W12 ⟨rfl, hb⟩
  have hX12 := zon hb hX11
  have hB12 := zup hb hB11
  have hS12 := zon hb hS11
  have hV12 := zon hb hV11
  clear hb hX11 hB11 hS11 hV11
  refine hK'.out _ _ (by exact ⟨hX12.out, hS12.out, hV12.out⟩) (fun zH => ?_)
  clear hK' K
  refine tkx 34 (.bool true) zH ?_; simp only [lp]
  refine tkx 35 (.bool true) zH ?_; simp only [lp]
  refine wpAnyH_done (by kernel_rfl) ?_ _
  go_wp2_with fail
  go_ret
  exact ⟨rfl, hB12.out⟩

end Go.Proofs.YtmfajekfipfjpaaGreat
