/- Layer 7, the program's side: a disk's Crash. -/
import Derived.Test.YtbclmkpigdeilaaDkK
namespace Go.Proofs.Ytbclmkpigdeilaa
open Go.RowKit
open Go.Lib (strCells strCells_length strCells_oneCell)

theorem rows_of_blocks {w w' : World} {B n size : Nat} {e : TypeId} {v : Value} {xs : List Value} (h : w.ownsRow B e size v n xs) (hb : ∀ k, v.ownBlock = some k → w'.heap[k]? = w.heap[k]?) : w'.ownsRow B e size v n xs := by
  refine ⟨h.1, ?_⟩
  rcases h.2 with hn | ⟨q, cap, cur, hv, hb', hq, rest⟩
  · exact .inl hn
  · exact .inr ⟨q, cap, cur, hv, hb', (hb q (by rw [hv]; rfl)).trans hq, rest⟩
/-- A row from block B on stays where only older blocks, or none, turn. -/
theorem rows_turned {w w' : World} {B n size g b : Nat} {e : TypeId} {v : Value} {xs : List Value} (h : w.ownsRow B e size v n xs) (ht : Turns w w' g (some b)) (h1 : g < B) (h2 : b < B) : w'.ownsRow B e size v n xs :=
  rows_of_blocks h fun k hk => by
    have := h.lt k hk
    exact ht.block k this.2 (by omega) (fun e => by have := Option.some.inj e; omega)
theorem rows_on {w w' : World} {B n size : Nat} {e : TypeId} {v : Value} {xs : List Value} (h : w.ownsRow B e size v n xs) (hb : Below w.heap.size w w') : w'.ownsRow B e size v n xs :=
  rows_of_blocks h fun k hk => hb.block k (h.lt k hk).2
theorem ints_at {w : World} {B n c : Nat} {e : TypeId} {A : Option Addr} {ks : List Nat} (h : w.ownsRow B e 1 (.slice A n c) n (ks.map fun (k : Nat) => Value.int .i64 (k : Int))) {q k : Nat} (hq : ks[q]? = some k) : ∃ g, A = some ⟨g, 0, none⟩ ∧ w.cell? ⟨g, q, none⟩ = some (.int .i64 (k : Int)) := by
  have hlt := (List.getElem?_eq_some_iff.1 hq).1
  rcases h.2 with ⟨hv, h0⟩ | ⟨g, cap, cur, hv, hb, hq2, rest⟩
  · have := h.1
    rw [List.length_map] at this
    omega
  · injection hv with h1 _ h2
    subst h1
    refine ⟨g, rfl, ?_⟩
    have hc := h.cells (g := g) rfl q (.int .i64 (k : Int)) (by rw [List.getElem?_map, hq]; rfl)
    rw [show (⟨g, 0, none⟩ : Addr).add q = ⟨g, q, none⟩ from by unfold Addr.add; split <;> simp_all] at hc
    exact hc

set_option maxRecDepth 100000 in
set_option maxHeartbeats 1000000 in
theorem dkCrash_any (keep : Int) (d r b n : Nat) (D : Dk) (w : World) (hD : DiskAt w d r b n D) : Calls Try.prog 38 #[.pointer (some ⟨d, 0, none⟩), .int .i64 keep] w fun e w' => e = .returned (.int .i64 0) ∧ DiskAt w' d r b n (D.crash keep) ∧ Turns w w' r (some b) := by
  have hK := hid (dkKeys_any b w)
  have hS := hid (dkSorted_any d r b n D w hD)
  have hfin := hid hD.fine
  have c1 := hD.own.cK 1 _ rfl
  have hA0 := hid hD
  have hlt := hid hD.lt
  have hL : (oldKeys n D.old).length ≤ 256 := by
    have h2 := rank_le D.old n
    have := hD.most
    rw [oldKeys_len]
    omega
  obtain ⟨L, hLL⟩ : ∃ L, (oldKeys n D.old).length = L := ⟨_, rfl⟩
  rw [hLL] at hS hL
  have hLL' := hid hLL
  clear hD hLL
  go_enter Try.func38, Try.ntmps38
  go_wp2_with fail
  refine hK.out.mono ?_
  rintro e w' ⟨rfl, rfl⟩
  try (rename_i hKK; refine hKK _ _ ?_; clear hKK)
  go_wp2_with fail
  refine hS.out.mono ?_
  rintro e W1 ⟨A, c, rfl, hrow, hb⟩
  have hA1 := hid (hA0.out.on hb)
  have hT1 := hid (Turns.of_below hb r (some b))
  have hR1 := hid hrow
  clear hK hS hrow hb hA0 c1
  try (rename_i hKK; refine hKK _ _ ?_; clear hKK)
  go_wp2_with fail
  go_loopw [16] (fun ix wr => ∃ q : Nat, q ≤ L ∧ ix = .int .i64 (q : Int) ∧ DiskAt wr d r b n ⟨D.mid keep q, D.old⟩ ∧ Turns w wr r (some b) ∧ wr.ownsRow w.heap.size 3 1 (.slice A L c) L ((oldKeys n D.old).map fun (k : Nat) => Value.int .i64 (k : Int))) (fun ix _ => L - (intOf ix).toNat)
  case atStart => exact ⟨0, Nat.zero_le _, rfl, by rw [D.mid_zero keep]; exact hA1.out, hT1.out, hR1.out⟩
  case round =>
    obtain ⟨q, hq, rfl, hAr, hTr, hRr⟩ := hrel
    obtain ⟨W10, rfl⟩ : ∃ V, V = wr := ⟨_, rfl⟩
    have hA10 := hid hAr
    have hT10 := hid hTr
    have hR10 := hid hRr
    clear hAr hTr hRr hA1 hT1 hR1
    by_cases hql : q < L
    · have hql' : (q : Int) < (L : Int) := by omega
      obtain ⟨k, hkq⟩ : ∃ k, (oldKeys n D.old)[q]? = some k := ⟨_, List.getElem?_eq_getElem (by rw [hLL'.out]; exact hql)⟩
      obtain ⟨k1, k2, k3⟩ := oldKeys_at hkq
      obtain ⟨o, ho⟩ := dirt_mem k2
      have hst := hid (D.mid_step keep hfin.out hkq ho)
      obtain ⟨g, rfl, hcq⟩ := ints_at hR10.out hkq
      have hkn := hid k1
      have ho' := hid ho
      have k4 : (k : Int) < (n : Int) := by omega
      have s3 : (0 : Int) ≤ (k : Int) := by omega
      have s4 : (0 : Int) ≤ (q : Int) := by omega
      have ho64 := hid (hfin.out.ok.len _ (oldGet_mem ho))
      have hqw := IntWalk.i64_in ((q : Int) + 1) (by omega)
      clear hkq k1 k2 k3 ho
      rcases keepB_cases keep q with ⟨kb, kt0, kt1, kt2⟩ | ⟨kb, kt0, kt1, kt2⟩ | ⟨kb, kt0, kt1⟩
      · rw [kb, if_pos rfl] at hst
        clear kb
        go_wp2_with fail
        go_roundw
        case rel => exact ⟨q + 1, by omega, by go_num, by rw [hst.out]; exact hA10.out, hT10.out, hR10.out⟩
        case measure => simp [intOf]; omega
      · rw [kb, if_neg (by decide)] at hst
        clear kb
        go_wp2_with fail
        clear hcq
        have hlk := hid (fun V xs (h : DiskAt V d r b n ⟨xs, D.old⟩) => show (Instr.lookup 113 (.map (some b)) (.int .i64 (k : Int)) false).run Try.prog V = .ok (.agg (strCells o).toArray) V from by have hl := h.look hkn.out false; rw [ho'.out] at hl; exact hl)
        have hb : Below W10.heap.size W10 W10.drew := (Below.refl _ _).drew
        have hA11 := hid (hA10.out.on hb)
        have hT11 := hid (tr_up hb hT10.out)
        have hR11 := hid (rows_on hR10.out hb)
        clear hb hA10 hT10 hR10
        refine wp_region_held_drew (S := fun V => V.cell? ⟨d, 0, none⟩ = some (.slice (some ⟨r, 0, none⟩) n n) ∧ V.cell? ⟨d, 1, none⟩ = some (.map (some b)) ∧ (Instr.lookup 113 (.map (some b)) (.int .i64 (k : Int)) false).run Try.prog V = .ok (.agg (strCells o).toArray) V) (by kernel_rfl) (by exact ⟨hA11.out.own.cK 0 _ rfl, hA11.out.own.cK 1 _ rfl, hlk.out _ _ hA11.out⟩) (fun hHeld => ?_)
        generalize W10.drew = W11 at *
        refine tkn 0 (.pointer (some ⟨d, 0, none⟩)) rfl (by kernel_rfl) (fun _ _ _ h => h) (yieldsIf_move _ rfl rfl rfl) hHeld ?_
        simp only [ly, Act.put]
        refine tkn 1 (.pointer (some ⟨d, 0, none⟩)) rfl (by kernel_rfl) (fun _ _ _ h => h) (.inl ⟨by kernel_rfl, fun w _ => by go_simp⟩) hHeld ?_
        simp only [ly, Act.put]
        refine tkn 2 (.pointer (some ⟨d, 0, none⟩)) rfl (by kernel_rfl) (fun _ _ _ h => h) (.inl ⟨by kernel_rfl, fun w _ => by go_simp⟩) hHeld ?_
        simp only [ly, Act.put]
        refine tkn 3 (.slice (some ⟨r, 0, none⟩) n n) rfl (by kernel_rfl) (fun _ _ _ h => h) (.inl ⟨by kernel_rfl, fun V hS => by have c0 := hS.1; go_simp⟩) hHeld ?_
        simp only [ly, Act.put]
        refine tkn 4 (.int .i64 (k : Int)) rfl (by kernel_rfl) (fun _ _ _ h => h) (yieldsIf_move _ rfl rfl rfl) hHeld ?_
        simp only [ly, Act.put]
        refine tkn 5 (.pointer (some ⟨d, 0, none⟩)) rfl (by kernel_rfl) (fun _ _ _ h => h) (yieldsIf_move _ rfl rfl rfl) hHeld ?_
        simp only [ly, Act.put]
        refine tkn 6 (.pointer (some ⟨d, 0, none⟩)) rfl (by kernel_rfl) (fun _ _ _ h => h) (.inl ⟨by kernel_rfl, fun w _ => by go_simp⟩) hHeld ?_
        simp only [ly, Act.put]
        refine tkn 7 (.pointer (some ⟨d, 1, none⟩)) rfl (by kernel_rfl) (fun _ _ _ h => h) (.inl ⟨by kernel_rfl, fun w _ => by go_simp⟩) hHeld ?_
        simp only [ly, Act.put]
        refine tkn 8 (.map (some b)) rfl (by kernel_rfl) (fun _ _ _ h => h) (.inl ⟨by kernel_rfl, fun V hS => by have c1 := hS.2.1; go_simp⟩) hHeld ?_
        simp only [ly, Act.put]
        refine tkn 9 (.int .i64 (k : Int)) rfl (by kernel_rfl) (fun _ _ _ h => h) (yieldsIf_move _ rfl rfl rfl) hHeld ?_
        simp only [ly, Act.put]
        refine tkn 10 (.agg (strCells o).toArray) rfl (by kernel_rfl) (fun _ _ _ h => h) (.inl ⟨by kernel_rfl, fun V hS => by have hl := hS.2.2; go_simp⟩) hHeld ?_
        simp only [ly, Act.put]
        refine tkn 11 (.pointer (some ⟨r, k * 64, none⟩)) rfl (by kernel_rfl) (fun _ _ _ h => h) (.inl ⟨by kernel_rfl, fun w _ => by go_simp⟩) hHeld ?_
        simp only [ly, Act.put]
        refine wpAnyH_ready (rs := [12]) (by kernel_rfl) (by simp) (AllReadyH.cons rfl (fun K hK => ?_) AllReadyH.nil)
        have hK' := hid hK
        clear hK
        rw [if_pos (by kernel_rfl)]
        simp only [ly1, ly2, ly3]
        refine wp_store_mid _ _ _ rfl r (k * 64) (strCells o).toArray rfl rfl (by exact hA11.out.row.there _ _ (by rw [secCells_length _ hA11.out.fine.secs, List.size_toArray, strCells_length, ho64.out, hA11.out.fine.len]; have := hkn.out; omega)) (by exact secSizeA o ho64.out) (by exact secOne o) ?_
        generalize hXx : World.setCells _ _ _ _ = W12
        have hh := hA11.out.store hkn.out ho64.out hXx
        have hA12 := hid hh.1
        have hT12 := hid (tr_on hT11.out hh.2)
        have hR12 := hid (rows_turned hR11.out hh.2 hlt.out.2.1 hlt.out.2.2)
        clear hh hXx hA11 hT11 hR11
        refine hK'.out _ _ (by exact ⟨hA12.out.own.cK 0 _ rfl, hA12.out.own.cK 1 _ rfl, hlk.out _ _ hA12.out⟩) (fun hHeld => ?_)
        clear hK' K
        refine wpAnyH_done (by kernel_rfl) ?_ _
        go_wp2_with fail
        go_roundw
        case rel => exact ⟨q + 1, by omega, by go_num, by rw [hst.out]; exact hA12.out, hT12.out, hR12.out⟩
        case measure => simp [intOf]; omega
      · rw [kb, if_neg (by decide)] at hst
        clear kb
        go_wp2_with fail
        clear hcq
        have hlk := hid (fun V xs (h : DiskAt V d r b n ⟨xs, D.old⟩) => show (Instr.lookup 113 (.map (some b)) (.int .i64 (k : Int)) false).run Try.prog V = .ok (.agg (strCells o).toArray) V from by have hl := h.look hkn.out false; rw [ho'.out] at hl; exact hl)
        have hb : Below W10.heap.size W10 W10.drew := (Below.refl _ _).drew
        have hA11 := hid (hA10.out.on hb)
        have hT11 := hid (tr_up hb hT10.out)
        have hR11 := hid (rows_on hR10.out hb)
        clear hb hA10 hT10 hR10
        refine wp_region_held_drew (S := fun V => V.cell? ⟨d, 0, none⟩ = some (.slice (some ⟨r, 0, none⟩) n n) ∧ V.cell? ⟨d, 1, none⟩ = some (.map (some b)) ∧ (Instr.lookup 113 (.map (some b)) (.int .i64 (k : Int)) false).run Try.prog V = .ok (.agg (strCells o).toArray) V) (by kernel_rfl) (by exact ⟨hA11.out.own.cK 0 _ rfl, hA11.out.own.cK 1 _ rfl, hlk.out _ _ hA11.out⟩) (fun hHeld => ?_)
        generalize W10.drew = W11 at *
        refine tkn 0 (.pointer (some ⟨d, 0, none⟩)) rfl (by kernel_rfl) (fun _ _ _ h => h) (yieldsIf_move _ rfl rfl rfl) hHeld ?_
        simp only [ly, Act.put]
        refine tkn 1 (.pointer (some ⟨d, 0, none⟩)) rfl (by kernel_rfl) (fun _ _ _ h => h) (.inl ⟨by kernel_rfl, fun w _ => by go_simp⟩) hHeld ?_
        simp only [ly, Act.put]
        refine tkn 2 (.pointer (some ⟨d, 0, none⟩)) rfl (by kernel_rfl) (fun _ _ _ h => h) (.inl ⟨by kernel_rfl, fun w _ => by go_simp⟩) hHeld ?_
        simp only [ly, Act.put]
        refine tkn 3 (.slice (some ⟨r, 0, none⟩) n n) rfl (by kernel_rfl) (fun _ _ _ h => h) (.inl ⟨by kernel_rfl, fun V hS => by have c0 := hS.1; go_simp⟩) hHeld ?_
        simp only [ly, Act.put]
        refine tkn 4 (.int .i64 (k : Int)) rfl (by kernel_rfl) (fun _ _ _ h => h) (yieldsIf_move _ rfl rfl rfl) hHeld ?_
        simp only [ly, Act.put]
        refine tkn 5 (.pointer (some ⟨d, 0, none⟩)) rfl (by kernel_rfl) (fun _ _ _ h => h) (yieldsIf_move _ rfl rfl rfl) hHeld ?_
        simp only [ly, Act.put]
        refine tkn 6 (.pointer (some ⟨d, 0, none⟩)) rfl (by kernel_rfl) (fun _ _ _ h => h) (.inl ⟨by kernel_rfl, fun w _ => by go_simp⟩) hHeld ?_
        simp only [ly, Act.put]
        refine tkn 7 (.pointer (some ⟨d, 1, none⟩)) rfl (by kernel_rfl) (fun _ _ _ h => h) (.inl ⟨by kernel_rfl, fun w _ => by go_simp⟩) hHeld ?_
        simp only [ly, Act.put]
        refine tkn 8 (.map (some b)) rfl (by kernel_rfl) (fun _ _ _ h => h) (.inl ⟨by kernel_rfl, fun V hS => by have c1 := hS.2.1; go_simp⟩) hHeld ?_
        simp only [ly, Act.put]
        refine tkn 9 (.int .i64 (k : Int)) rfl (by kernel_rfl) (fun _ _ _ h => h) (yieldsIf_move _ rfl rfl rfl) hHeld ?_
        simp only [ly, Act.put]
        refine tkn 10 (.agg (strCells o).toArray) rfl (by kernel_rfl) (fun _ _ _ h => h) (.inl ⟨by kernel_rfl, fun V hS => by have hl := hS.2.2; go_simp⟩) hHeld ?_
        simp only [ly, Act.put]
        refine tkn 11 (.pointer (some ⟨r, k * 64, none⟩)) rfl (by kernel_rfl) (fun _ _ _ h => h) (.inl ⟨by kernel_rfl, fun w _ => by go_simp⟩) hHeld ?_
        simp only [ly, Act.put]
        refine wpAnyH_ready (rs := [12]) (by kernel_rfl) (by simp) (AllReadyH.cons rfl (fun K hK => ?_) AllReadyH.nil)
        have hK' := hid hK
        clear hK
        rw [if_pos (by kernel_rfl)]
        simp only [ly1, ly2, ly3]
        refine wp_store_mid _ _ _ rfl r (k * 64) (strCells o).toArray rfl rfl (by exact hA11.out.row.there _ _ (by rw [secCells_length _ hA11.out.fine.secs, List.size_toArray, strCells_length, ho64.out, hA11.out.fine.len]; have := hkn.out; omega)) (by exact secSizeA o ho64.out) (by exact secOne o) ?_
        generalize hXx : World.setCells _ _ _ _ = W12
        have hh := hA11.out.store hkn.out ho64.out hXx
        have hA12 := hid hh.1
        have hT12 := hid (tr_on hT11.out hh.2)
        have hR12 := hid (rows_turned hR11.out hh.2 hlt.out.2.1 hlt.out.2.2)
        clear hh hXx hA11 hT11 hR11
        refine hK'.out _ _ (by exact ⟨hA12.out.own.cK 0 _ rfl, hA12.out.own.cK 1 _ rfl, hlk.out _ _ hA12.out⟩) (fun hHeld => ?_)
        clear hK' K
        refine wpAnyH_done (by kernel_rfl) ?_ _
        go_wp2_with fail
        go_roundw
        case rel => exact ⟨q + 1, by omega, by go_num, by rw [hst.out]; exact hA12.out, hT12.out, hR12.out⟩
        case measure => simp [intOf]; omega
    · obtain rfl : q = L := by omega
      have c1 := hA10.out.own.cK 1 _ rfl
      go_wp2_with (first
        | ((with_reducible refine at_slot none ?_); obtain ⟨W11, hr, hA, hT⟩ := hA10.out.wipe _; refine wpList_wipe rfl (.tmp 46) _ rfl (.map (some b)) rfl W11 (by exact hr) ?_; have hA := hid hA; have hT := hid hT; clear hr)
        | fail)
      go_ret
      refine ⟨rfl, ?_, tr_on hT10.out hT.out⟩
      have h1 := D.mid_end keep
      rw [← hfin.out.len, oldKeys_len] at hLL'
      have h2 := hA.out
      rw [← hLL'.out, h1] at h2
      exact h2


end Go.Proofs.Ytbclmkpigdeilaa
