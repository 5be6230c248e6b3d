/- Layer 8: the law JournalSynced. -/
import Derived.Test.YtlicmbmhcpfocaaJnX
import Derived.Test.YtlicmbmhcpfocaaJnCr
namespace Go.Proofs.Ytlicmbmhcpfocaa
open Go.RowKit
open Go.Lib (strCells strCells_length strCells_oneCell)
attribute [local irreducible] Sha.compress Sha.blocks Sha.sha Sha.pad

/-- Open, where it is known what stands, whatever lies behind. -/
theorem open_st (d r b n : Nat) (D : Dk) (l : Stood) (st : JSt) (h1 : stand D.xs JSt.start (bare l) = some st) (h2 : nextS D.xs st = none) (w : World) (hD : DiskAt w d r b n D) :
    Calls Try.prog 15 #[.pointer (some ⟨d, 0, none⟩)] w fun e w' => ∃ (j : Nat) (A : Option Addr) (c : Nat), e = .returned (.tuple #[.pointer (some ⟨j, 0, none⟩), .slice A l.length c, .int .i64 0]) ∧ Holds w' j 67 (jCells d st.prev (st.seq : Int) (st.used : Int)) ∧ w'.ownsRow w.heap.size 25 2 (.slice A l.length c) l.length (recsV l) ∧ DiskAt w' d r b n (D.wiped st.used) ∧ Turns w w' r (some b) ∧ w.heap.size ≤ j :=
  (open_any d r b n D w hD).mono fun e w' ⟨j, A, c, l2, st2, g1, g2, h3, h4, h5, h6, h7, h8⟩ => by
    obtain ⟨e1, rfl⟩ := stands_one g1 g2 h1 h2
    obtain rfl := bare_inj e1
    exact ⟨j, A, c, h3, h4, h5, h6, h7, h8⟩
/-- As RecsA, and not longer than memory has room for. -/
def RecsB (w : World) (B : Nat) (A : Option Addr) (n : Nat) (xs : List Rec) : Prop := RecsA w B A n xs ∧ n ≤ 10000000000000
section
variable {H : Type} {enc : TypeId × Value → H} {w : World} {base : Nat} {spare : Nat → Bool} {held : Bool}
open Go.ChangeShapes Go.WideShapes Go.Deep
theorem open_recsB {fuel : Nat} {x : DataW H × List MemPlace} {A : Option Addr} {len cap : Nat} (h : DataW.trod enc Try.prog w base spare held fuel 35 [.slice A len cap] = some x) (hlt : ∀ y ∈ x.2, y.block < w.heap.size)
    (hw : ∀ k ∈ x.1.weights Try.prog 35, k ≤ reachBytes) : ∃ xs, RecsB w w.heap.size A len xs ∧ len ≤ maxLen := by
  obtain ⟨xs, h1, h2⟩ := open_recs h hlt
  refine ⟨xs, ⟨h1, ?_⟩, h2⟩
  rcases open_slice Try.underlying35 h with ⟨hcs, _⟩ | ⟨a, l, c, m, n, D, Pl, hcs, hb, hl, hm, hmm, hx, hi⟩
  · simp at hcs
    omega
  · simp at hcs
    obtain ⟨rfl, rfl, rfl⟩ := hcs
    have hby : Try.prog.bytesOf 25 = 24 := by kernel_rfl
    have hk := hw ((len + (m - len)) * 24) (by
      rw [hx]
      simp only [DataW.weights, Try.underlying35]
      refine List.mem_cons.2 (.inl ?_)
      simp [hby])
    unfold reachBytes at hk
    omega
end
/-- At most 20 bytes are left of a text. -/
def cut20 (R : Rec) : Rec := ⟨R.kind, R.data.extract 0 (min R.data.size 20)⟩
theorem cut20_size (R : Rec) : (cut20 R).data.size ≤ 20 := by
  show (R.data.extract 0 (min R.data.size 20)).size ≤ 20
  rw [ByteArray.size_extract]
  omega
theorem cut20_w (R : Rec) : wholes (41 + (cut20 R).data.size) = 1 := by
  have := cut20_size R
  unfold wholes
  omega
theorem cut20_set (R : Rec) : (recV R).set 1 (.string (R.data.extract 0 (min R.data.size 20))) = recV (cut20 R) := rfl
theorem RecsA.take {w : World} {B : Nat} {A : Option Addr} {n m : Nat} {xs : List Rec} (h : RecsA w B A n xs) (hm : m ≤ n) : RecsA w B A m (xs.take m) := by
  obtain ⟨h1, h3⟩ := h
  refine ⟨by rw [List.length_take]; omega, ?_⟩
  rcases h3 with h3 | ⟨p, hA, hB, hc⟩
  · exact .inl (by omega)
  · refine .inr ⟨p, hA, hB, fun i hi j v hv => ?_⟩
    rw [List.length_take] at hi
    rw [List.getElem_take] at hv
    exact hc i (by omega) j v hv

set_option maxRecDepth 100000 in
set_option maxHeartbeats 30000000 in
theorem JournalSynced_law (A1 : Option Addr) (n1 c1 : Nat) (xs1 : List Rec) {w : World} (h1 : RecsB w w.heap.size A1 n1 xs1) (_ : n1 ≤ maxLen) (A2 : Option Addr) (n2 c2 : Nat) (xs2 : List Rec) (h2 : RecsB w w.heap.size A2 n2 xs2) (_ : n2 ≤ maxLen) (keep : Int) :
    Calls Try.prog 4 #[.slice A1 n1 c1, .slice A2 n2 c2, .int .i64 keep] w fun e w' => e = .returned (.bool true) ∧ Below w.heap.size w w' := by
  have hX1 := hid h1.1
  have hX2 := hid h2.1
  have hm1 := h1.2
  have hm2 := h2.2
  obtain ⟨S, hS⟩ : ∃ s, n1 + n2 = s := ⟨_, rfl⟩
  have eS : IntKind.i64.wrap ((n1 : Int) + (n2 : Int)) = (S : Int) := by rw [IntWalk.i64_in _ (by omega)]; omega
  have hS' := hid hS
  have hmx := hid (And.intro hm1 hm2)
  clear h1 h2 hm1 hm2 hS
  go_enter Try.func4, Try.ntmps4
  go_wp2_with (first
    | (go_at_call 13; refine (awake8_any _).mono ?_; rintro e W1 ⟨rfl, hb⟩; have hB1 := hid hb; clear hb)
    | fail)
  have hN := hid (dkNew_yes 256 (by decide) (by decide) W1)
  obtain ⟨d, hd⟩ : ∃ d, W1.heap.size + 2 = d := ⟨_, rfl⟩
  obtain ⟨r, hr0⟩ : ∃ r, W1.heap.size = r := ⟨_, rfl⟩
  obtain ⟨b, hb0⟩ : ∃ b, W1.heap.size + 1 = b := ⟨_, rfl⟩
  have hr := hid (show w.heap.size ≤ r from by have := hB1.out.size; omega)
  have hb' := hid (show w.heap.size ≤ b from by have := hB1.out.size; omega)
  have hN' := hid (show Calls Try.prog 14 #[.int .i64 256] W1 fun e w' => e = .returned (.tuple #[.pointer (some ⟨d, 0, none⟩), .int .i64 0]) ∧ DiskAt w' d r b 256 (Dk.new 256) ∧ Below W1.heap.size W1 w' from by
    have h := hN.out
    rw [hd, hb0] at h
    exact h.mono fun e w' h2 => ⟨h2.1, by rw [← hr0]; exact h2.2.1, h2.2.2⟩)
  clear hN hd hr0 hb0
  refine hN'.out.mono ?_
  rintro e W2 ⟨rfl, hA, hb⟩
  have hA2 := hid hA
  have hB2 := hid (bup hb hB1.out)
  clear hA hb hN' hB1
  go_wp2_with fail
  refine (open_ok d r b 256 (Dk.new 256) [] JSt.start (JOk.new 256) _ hA2.out).mono ?_
  rintro e W3 ⟨j, A0, c0, rfl, hj, hrow0, hA, hk0, hT, hjl⟩
  have hjj := hid (show j ≠ r ∧ j ≠ b ∧ j ≠ d from by have := hA2.out.lt; omega)
  have hjw := hid (show w.heap.size ≤ j from Nat.le_trans hB2.out.size hjl)
  have hJ3 := hid hj
  have hA3 := hid hA
  have hB3 := hid (dk_below8 hB2.out hT hr.out hb'.out)
  have hk0' := hid hk0
  clear hA2 hB2 hj hrow0 hA hk0 hT hjl
  go_wp2_with (first
    | (go_at_call 12; refine (errNum_any _ _).mono ?_; rintro e w' ⟨rfl, rfl⟩)
    | fail)
  go_loopw [12, 13, 14] (fun av mv ix wr => ∃ (i must : Nat) (D : Dk) (l : Stood) (st : JSt) (A : Option Addr) (c : Nat), i ≤ 24 ∧ ix = .int .i64 (i : Int) ∧ mv = .int .i64 (must : Int) ∧ av = .slice A l.length c ∧ must ≤ l.length ∧ l.length ≤ i ∧ OneEach l ∧ Since D must ∧ JOk D 256 l st ∧ Holds wr j 67 (jCells d st.prev (st.seq : Int) (st.used : Int)) ∧ DiskAt wr d r b 256 D ∧ wr.ownsRow w.heap.size 25 2 (.slice A l.length c) l.length (recsV l) ∧ Below w.heap.size w wr) (fun _ _ ix _ => 24 - (intOf ix).toNat)
  case atStart => exact ⟨0, 0, _, [], JSt.start, none, 0, Nat.zero_le _, rfl, rfl, rfl, Nat.le_refl _, Nat.le_refl _, (fun x hx => by cases hx), Since.nil rfl, hk0'.out, hJ3.out, hA3.out, World.ownsRow_nil _ _ _ _, hB3.out⟩
  case round =>
    obtain ⟨i, must, D1, l1, st1, A7, c7, hi24, rfl, rfl, rfl, hml, hli, hone, hsi, hok, hj, hA, hrow, hB⟩ := hrel
    obtain ⟨W7, rfl⟩ : ∃ V, V = wr := ⟨_, rfl⟩
    have hJ7 := hid hj
    have hA7 := hid hA
    have hB7 := hid hB
    have hR7 := hid hrow
    have hok1 := hid hok
    have hml := hid hml
    have hone := hid hone
    have hsi := hid hsi
    have hl24 := hid (show l1.length ≤ 24 ∧ l1.length ≤ i from ⟨by omega, hli⟩)
    clear hj hA hB hrow hok hli
    have u2 := IntWalk.i64_in ((i : Int) + 1) (by omega)
    by_cases hiS : i < S
    · have hi1 : (i : Int) < (S : Int) := by omega
      by_cases hi92 : i < 24
      · have hi2 : (i : Int) < 24 := by omega
        have hi0 : (0 : Int) ≤ (i : Int) := by omega
        by_cases hc1 : i < n1
        · have hkk : i < n1 := hc1
          have e1 : ((i : Int) == (n1 : Int)) = false := beq_eq_false_iff_ne.2 (by omega)
          have e2 : (i : Int) < (n1 : Int) := by omega
          obtain ⟨p, R, hpA, hpB, hR, -⟩ := hX1.out.get (k := i) hkk
          have hcl := hid (fun V (hV : Below w.heap.size w V) => show ∀ j v, (recV R)[j]? = some v → V.cell? ((p.add (i * 2)).add j) = some v from by
            obtain ⟨p', R', h1, h2, h3, h4⟩ := (hX1.out.below hV).get (k := i) hkk
            rw [hpA] at h1
            obtain rfl := Option.some.inj h1
            rw [hR] at h3
            obtain rfl := Option.some.inj h3
            exact h4)
          subst hpA
          clear hR hpB
          obtain ⟨g, hg⟩ : ∃ g, W7.heap.size = g := ⟨_, rfl⟩
          have hg' := hid hg
          have hgl := hid (show d < g ∧ r < g ∧ b < g ∧ j < g ∧ w.heap.size ≤ g from by
            have h1 := hA7.out.lt
            have h2 := hJ7.out.lt
            have h3 := hB7.out.size
            omega)
          clear hg
          have em : min (R.data.size : Int) 20 = ((min R.data.size 20 : Nat) : Int) := by omega
          have em2 : ((min R.data.size 20 : Nat) : Int) ≤ (R.data.size : Int) := by omega
          have em3 : (0 : Int) ≤ ((min R.data.size 20 : Nat) : Int) := by omega
          obtain ⟨m20, hm20⟩ : ∃ m, min R.data.size 20 = m := ⟨_, rfl⟩
          rw [hm20] at em em2 em3
          have hm20' := hid hm20
          clear hm20
          have hf0 := hok1.out.facts
          have hused := hid (show st1.used = l1.length from by
            rw [stand_over hok1.out.chain, over_one hone.out]
            exact Nat.zero_add _)
          cases hsm : sealMay (st1.seq : Int) (cut20 R) with
          | false =>
            have hap := hid (fun W hJ hA => append_bad j d r b 256 D1 st1 hf0.1 (cut20 R) hsm W hJ hA)
            clear hf0 hsm
            go_wp2_with (first
              | ((with_reducible refine at_slot (some 16) ?_); refine wpList_run rfl (.pointer (some ⟨g, 0, none⟩)) (W7.alloc (.cells (recV rec0).toArray 25)) (by rw [← hg'.out]; kernel_rfl) ?_)
              | ((with_reducible refine at_slot none ?_); refine wpList_store_mid rfl 25 (.tmp 16) (.tmp 65) rfl g 0 (recV rec0).toArray rfl rfl (by exact rec_there hg'.out rec0) (by exact recSize rec0) (by exact recOne rec0) ?_; generalize hWa : World.setCells _ _ _ _ = W30; have hh := rec_new hg'.out hWa; have hX30 := hid hh.1; have hb30 := hid hh.2; clear hh hWa)
              | ((with_reducible refine at_slot (some 73) ?_); refine wpList_plain rfl fun K hK => ?_; refine wp_load_any 25 (.tmp 72) rfl _ rfl (recV R) _ (by exact hcl.out _ (hB7.out.trans (hb30.out.mono hB7.out.size))) Try.underlying25 rfl (by exact recSizeL R) ?_; refine hK _ _ ?_; clear hK K)
              | ((with_reducible refine at_slot none ?_); refine wpList_store_mid rfl 25 (.tmp 16) (.tmp 73) rfl g 0 (recV R).toArray rfl rfl (by exact hX30.out.there 0 _ (Nat.le_refl _)) (by exact recSize R) (by exact recOne R) ?_; generalize hWa : World.setCells _ _ _ _ = W31; have hh := rec_put hX30.out hb30.out (Nat.le_of_eq hg'.out) hWa; have hX31 := hid hh.1; have hb31 := hid hh.2; have x0 := hX31.out.cK 0 _ rfl; have x1 := hX31.out.cK 1 _ rfl; have xf := hX31.out.frozen 1; obtain ⟨W32, hW32⟩ : ∃ V, W31.setCell ⟨g, 1, none⟩ (.string (R.data.extract 0 m20)) = V := ⟨_, rfl⟩; have hb32 := hid (show Below W7.heap.size W7 W32 from by rw [← hW32]; exact hb31.out.setCell (p := ⟨g, 1, none⟩) (Nat.le_of_eq hg'.out) _); have hX32 := hid (show Holds W32 g 25 (recV (cut20 R)) from by rw [← hW32, ← cut20_set R, hm20'.out]; exact hX31.out.set 1 _); have hJ32 := hid (hJ7.out.below hb32.out hJ7.out.lt); have hA32 := hid (hA7.out.on hb32.out); have hB32 := hid (bup hb32.out hB7.out); have hR32 := hid (rows_on hR7.out hb32.out); have hW32' := hid hW32; clear hW32 hWa hh hX30 hb30 hb31 hb32 hJ7 hA7 hB7 hR7)
              | ((with_reducible refine at_slot (some 90) ?_); rw [hW32'.out]; clear x0 x1 xf; refine wpList_load_mid rfl 25 (.tmp 16) rfl g 0 rfl (recV (cut20 R)) _ (by exact h_all hX32.out) Try.underlying25 rfl (by exact recSizeL _) ?_)
              | (go_at_call 12; refine (errNum_any _ _).mono ?_; rintro e w' ⟨rfl, rfl⟩)
              | (go_at_call 17; refine (hap.out _ hJ32.out hA32.out).mono ?_; rintro e W33 ⟨rfl, hb⟩; have hJ33 := hid (hJ32.out.below hb hJ32.out.lt); have hA33 := hid (hA32.out.on hb); have hB33 := hid (bup hb hB32.out); have hR33 := hid (rows_on hR32.out hb); clear hb hJ32 hA32 hB32 hR32)
              | ((with_reducible refine at_slot (some 96) ?_); refine wpList_load_mid rfl 25 (.tmp 16) rfl g 0 rfl (recV (cut20 R)) _ (by exact h_all hX33.out) Try.underlying25 rfl (by exact recSizeL _) ?_)
              | ((with_reducible refine at_slot (some 97) ?_); refine wpList_pushRec rfl rfl (.tmp 96) (.tmp 95) (.tmp 97) rfl rfl w.heap.size A7 l1.length c7 _ (cut20 R) rfl rfl rfl (by have := hl24.out; omega) hR33.out (by exact hB33.out.size) ?_; intro A9 c9 W34 hrow9 hg9; have hR34 := hid hrow9; have hJ34 := hid (hJ33.out.grown hg9 (fun e => recs_ne hR33.out e.symm hJ33.out (by decide) rfl)); have hA34 := hid (hA33.out.grown hg9 (fun e => (recs_dk hR33.out e.symm hA33.out).1 rfl) (fun e => (recs_dk hR33.out e.symm hA33.out).2.1 rfl) (fun e => (recs_dk hR33.out e.symm hA33.out).2.2 rfl)); have hB34 := hid (hB33.out.grown hg9 hB33.out.size (fun k e => (hR33.out.lt k e).1)); clear hrow9 hg9 hJ33 hA33 hB33 hR33)
              | fail)
            go_roundw
            case rel => exact ⟨i + 1, must, D1, l1, st1, A7, c7, by omega, by go_num, rfl, rfl, hml.out, Nat.le_succ_of_le hl24.out.2, hone.out, hsi.out, hok1.out, hJ33.out, hA33.out, hR33.out, hB33.out⟩
            case measure => simp [intOf]; omega
          | true =>
            have hfit : st1.used + wholes (41 + (cut20 R).data.size) ≤ 256 := by rw [cut20_w, hused.out]; have := hl24.out; omega
            have hap := hid (fun W hJ hA => append_ok j d r b 256 D1 st1 hf0.1 (cut20 R) hsm hfit W hJ hA hjj.out)
            have hok2 := hok1.out.append (cut20 R) hsm hfit
            have hsi2 : Since (writeS D1 st1.used (recBytes st1.prev st1.seq (cut20 R).kind.toNat (cut20 R).data) (wholes (41 + (cut20 R).data.size))) must := by
              rw [cut20_w]
              refine Since.write (D := D1) hsi.out (by show must ≤ st1.used + 0; rw [hused.out]; exact hml.out) ?_
              have hlt : st1.used < D1.xs.length := by rw [hok1.out.fine.len, hused.out]; have := hl24.out; omega
              obtain ⟨s, hs⟩ : ∃ s, D1.xs[st1.used]? = some s := ⟨_, List.getElem?_eq_getElem hlt⟩
              show D1.xs.getD (st1.used + 0) ⟨#[]⟩ = _
              rw [Nat.add_zero, List.getD_eq_getElem?_getD, hs]
              exact hok1.out.blank _ _ (Nat.le_refl _) hs
            obtain ⟨D2, hD2⟩ : ∃ x, writeS D1 st1.used (recBytes st1.prev st1.seq (cut20 R).kind.toNat (cut20 R).data) (wholes (41 + (cut20 R).data.size)) = x := ⟨_, rfl⟩
            obtain ⟨st2, hst2⟩ : ∃ x, st1.pass (cut20 R) (recBytes st1.prev st1.seq (cut20 R).kind.toNat (cut20 R).data) = x := ⟨_, rfl⟩
            have hxz : (asRB st1 (cut20 R) hsm).1.2.size = 64 := by show (recBytes st1.prev st1.seq (cut20 R).kind.toNat (cut20 R).data).size = 64; rw [recBytes_size, cut20_w]
            obtain ⟨x2, hx2⟩ : ∃ x, asRB st1 (cut20 R) hsm = x := ⟨_, rfl⟩
            have hx2' := hid (show x2.1.1 = cut20 R from by rw [← hx2]; rfl)
            rw [hx2] at hxz
            rw [hD2, hst2] at hap
            rw [hD2] at hsi2
            rw [hD2, hst2, hx2] at hok2
            have hok2' := hid hok2
            have hsi2' := hid hsi2
            have hlen2 := hid (show (l1 ++ [x2]).length = l1.length + 1 from by rw [List.length_append]; rfl)
            have hone2 := hid (show OneEach (l1 ++ [x2]) from fun y hy => by
              rcases List.mem_append.1 hy with h | h
              · exact hone.out y h
              · rw [List.mem_singleton.1 h]; exact hxz)
            clear hok2 hD2 hst2 hx2 hf0 hfit hsm hsi2 hxz
            go_wp2_with (first
              | ((with_reducible refine at_slot (some 16) ?_); refine wpList_run rfl (.pointer (some ⟨g, 0, none⟩)) (W7.alloc (.cells (recV rec0).toArray 25)) (by rw [← hg'.out]; kernel_rfl) ?_)
              | ((with_reducible refine at_slot none ?_); refine wpList_store_mid rfl 25 (.tmp 16) (.tmp 65) rfl g 0 (recV rec0).toArray rfl rfl (by exact rec_there hg'.out rec0) (by exact recSize rec0) (by exact recOne rec0) ?_; generalize hWa : World.setCells _ _ _ _ = W30; have hh := rec_new hg'.out hWa; have hX30 := hid hh.1; have hb30 := hid hh.2; clear hh hWa)
              | ((with_reducible refine at_slot (some 73) ?_); refine wpList_plain rfl fun K hK => ?_; refine wp_load_any 25 (.tmp 72) rfl _ rfl (recV R) _ (by exact hcl.out _ (hB7.out.trans (hb30.out.mono hB7.out.size))) Try.underlying25 rfl (by exact recSizeL R) ?_; refine hK _ _ ?_; clear hK K)
              | ((with_reducible refine at_slot none ?_); refine wpList_store_mid rfl 25 (.tmp 16) (.tmp 73) rfl g 0 (recV R).toArray rfl rfl (by exact hX30.out.there 0 _ (Nat.le_refl _)) (by exact recSize R) (by exact recOne R) ?_; generalize hWa : World.setCells _ _ _ _ = W31; have hh := rec_put hX30.out hb30.out (Nat.le_of_eq hg'.out) hWa; have hX31 := hid hh.1; have hb31 := hid hh.2; have x0 := hX31.out.cK 0 _ rfl; have x1 := hX31.out.cK 1 _ rfl; have xf := hX31.out.frozen 1; obtain ⟨W32, hW32⟩ : ∃ V, W31.setCell ⟨g, 1, none⟩ (.string (R.data.extract 0 m20)) = V := ⟨_, rfl⟩; have hb32 := hid (show Below W7.heap.size W7 W32 from by rw [← hW32]; exact hb31.out.setCell (p := ⟨g, 1, none⟩) (Nat.le_of_eq hg'.out) _); have hX32 := hid (show Holds W32 g 25 (recV (cut20 R)) from by rw [← hW32, ← cut20_set R, hm20'.out]; exact hX31.out.set 1 _); have hJ32 := hid (hJ7.out.below hb32.out hJ7.out.lt); have hA32 := hid (hA7.out.on hb32.out); have hB32 := hid (bup hb32.out hB7.out); have hR32 := hid (rows_on hR7.out hb32.out); have hW32' := hid hW32; clear hW32 hWa hh hX30 hb30 hb31 hb32 hJ7 hA7 hB7 hR7)
              | ((with_reducible refine at_slot (some 90) ?_); rw [hW32'.out]; clear x0 x1 xf; refine wpList_load_mid rfl 25 (.tmp 16) rfl g 0 rfl (recV (cut20 R)) _ (by exact h_all hX32.out) Try.underlying25 rfl (by exact recSizeL _) ?_)
              | (go_at_call 12; refine (errNum_any _ _).mono ?_; rintro e w' ⟨rfl, rfl⟩)
              | (go_at_call 17; refine (hap.out _ hJ32.out hA32.out).mono ?_; rintro e W33 ⟨rfl, hj, hA, hT⟩; have hX33 := hid (hT.holds hX32.out (fun h => by have := hgl.out; rcases h with e | e | e <;> omega)); have hJ33 := hid (show Holds W33 j 67 (jCells d _ _ _) from hj); have hA33 := hid hA; have hB33 := hid (js_below hB32.out hT hjw.out hr.out hb'.out); have hR33 := hid (recs_turnedS hR32.out hA32.out hJ32.out hT); clear hj hA hT hJ32 hA32 hB32 hR32 hX32)
              | ((with_reducible refine at_slot (some 96) ?_); refine wpList_load_mid rfl 25 (.tmp 16) rfl g 0 rfl (recV (cut20 R)) _ (by exact h_all hX33.out) Try.underlying25 rfl (by exact recSizeL _) ?_)
              | ((with_reducible refine at_slot (some 97) ?_); refine wpList_pushRec rfl rfl (.tmp 96) (.tmp 95) (.tmp 97) rfl rfl w.heap.size A7 l1.length c7 _ (cut20 R) rfl rfl rfl (by have := hl24.out; omega) hR33.out (by exact hB33.out.size) ?_; intro A9 c9 W34 hrow9 hg9; have hR34 := hid hrow9; have hJ34 := hid (hJ33.out.grown hg9 (fun e => recs_ne hR33.out e.symm hJ33.out (by decide) rfl)); have hA34 := hid (hA33.out.grown hg9 (fun e => (recs_dk hR33.out e.symm hA33.out).1 rfl) (fun e => (recs_dk hR33.out e.symm hA33.out).2.1 rfl) (fun e => (recs_dk hR33.out e.symm hA33.out).2.2 rfl)); have hB34 := hid (hB33.out.grown hg9 hB33.out.size (fun k e => (hR33.out.lt k e).1)); clear hrow9 hg9 hJ33 hA33 hB33 hR33)
              | fail)
            go_roundw
            case rel => exact ⟨i + 1, must, D2, l1 ++ [x2], st2, A9, c9, by omega, by go_num, rfl, by rw [hlen2.out], by rw [hlen2.out]; exact Nat.le_succ_of_le hml.out, by rw [hlen2.out]; exact Nat.succ_le_succ hl24.out.2, hone2.out, hsi2'.out, hok2'.out, hJ34.out, hA34.out, by rw [hlen2.out, recsV_snoc, hx2'.out]; exact hR34.out, hB34.out⟩
            case measure => simp [intOf]; omega
        · have hkk : i - n1 < n2 := by have := hS'.out; omega
          have e2 : ¬ (i : Int) < (n1 : Int) := by omega
          obtain ⟨k2, hk2⟩ : ∃ k, i - n1 = k := ⟨_, rfl⟩
          rw [hk2] at hkk
          have e3 : IntKind.i64.wrap ((i : Int) - (n1 : Int)) = (k2 : Int) := by rw [IntWalk.i64_in _ (by omega)]; omega
          have e4 : (0 : Int) ≤ (k2 : Int) := by omega
          have e5 : (k2 : Int) < (n2 : Int) := by omega
          by_cases hc2 : n1 = i
          · subst hc2
            have hkk : 0 < n2 := by omega
            clear e3 e4 e5
            have e1 : ((n1 : Int) == (n1 : Int)) = true := beq_self_eq_true _
            have hsy := hid (fun W hJ hA => jSync_any j d r b 256 D1 st1 W hJ hA)
            go_wp2_with fail
            refine (hsy.out _ hJ7.out hA7.out).mono ?_
            rintro e W8 ⟨rfl, hA, hT⟩
            have hJ8 := hid (hT.holds hJ7.out hjj.out.1 (fun e => hjj.out.2.1 (Option.some.inj e)))
            have hB8 := hid (dk_below8 hB7.out hT hr.out hb'.out)
            have hR8 := hid (recs_turned hR7.out hA7.out hT)
            have hok8 := hok1.out.sync
            have hsi8 : Since D1.sync l1.length := Since.nil rfl
            obtain ⟨D8, hD8⟩ : ∃ x, D1.sync = x := ⟨_, rfl⟩
            rw [hD8] at hok8 hsi8 hA
            have hA8 := hid hA
            have hok1 := hid hok8
            have hsi := hid hsi8
            have hml := hid (Nat.le_refl l1.length)
            clear hA hT hA7 hJ7 hB7 hR7 hok8 hsi8 hD8
            obtain ⟨p, R, hpA, hpB, hR, -⟩ := hX2.out.get (k := 0) hkk
            have hcl := hid (fun V (hV : Below w.heap.size w V) => show ∀ j v, (recV R)[j]? = some v → V.cell? (p.add j) = some v from by
              obtain ⟨p', R', h1, h2, h3, h4⟩ := (hX2.out.below hV).get (k := 0) hkk
              rw [hpA] at h1
              obtain rfl := Option.some.inj h1
              rw [hR] at h3
              obtain rfl := Option.some.inj h3
              rw [Nat.zero_mul, show p.add 0 = p from by unfold Addr.add; simp] at h4
              exact h4)
            subst hpA
            clear hR hpB
            obtain ⟨g, hg⟩ : ∃ g, W8.heap.size = g := ⟨_, rfl⟩
            have hg' := hid hg
            have hgl := hid (show d < g ∧ r < g ∧ b < g ∧ j < g ∧ w.heap.size ≤ g from by
              have h1 := hA8.out.lt
              have h2 := hJ8.out.lt
              have h3 := hB8.out.size
              omega)
            clear hg
            have em : min (R.data.size : Int) 20 = ((min R.data.size 20 : Nat) : Int) := by omega
            have em2 : ((min R.data.size 20 : Nat) : Int) ≤ (R.data.size : Int) := by omega
            have em3 : (0 : Int) ≤ ((min R.data.size 20 : Nat) : Int) := by omega
            obtain ⟨m20, hm20⟩ : ∃ m, min R.data.size 20 = m := ⟨_, rfl⟩
            rw [hm20] at em em2 em3
            have hm20' := hid hm20
            clear hm20
            have hf0 := hok1.out.facts
            have hused := hid (show st1.used = l1.length from by
              rw [stand_over hok1.out.chain, over_one hone.out]
              exact Nat.zero_add _)
            cases hsm : sealMay (st1.seq : Int) (cut20 R) with
            | false =>
              have hap := hid (fun W hJ hA => append_bad j d r b 256 D8 st1 hf0.1 (cut20 R) hsm W hJ hA)
              clear hf0 hsm
              go_wp2_with (first
                | ((with_reducible refine at_slot (some 16) ?_); refine wpList_run rfl (.pointer (some ⟨g, 0, none⟩)) (W8.alloc (.cells (recV rec0).toArray 25)) (by rw [← hg'.out]; kernel_rfl) ?_)
                | ((with_reducible refine at_slot none ?_); refine wpList_store_mid rfl 25 (.tmp 16) (.tmp 65) rfl g 0 (recV rec0).toArray rfl rfl (by exact rec_there hg'.out rec0) (by exact recSize rec0) (by exact recOne rec0) ?_; generalize hWa : World.setCells _ _ _ _ = W30; have hh := rec_new hg'.out hWa; have hX30 := hid hh.1; have hb30 := hid hh.2; clear hh hWa)
                | ((with_reducible refine at_slot (some 80) ?_); refine wpList_plain rfl fun K hK => ?_; refine wp_load_any 25 (.tmp 79) rfl _ rfl (recV R) _ (by exact hcl.out _ (hB8.out.trans (hb30.out.mono hB8.out.size))) Try.underlying25 rfl (by exact recSizeL R) ?_; refine hK _ _ ?_; clear hK K)
                | ((with_reducible refine at_slot none ?_); refine wpList_store_mid rfl 25 (.tmp 16) (.tmp 80) rfl g 0 (recV R).toArray rfl rfl (by exact hX30.out.there 0 _ (Nat.le_refl _)) (by exact recSize R) (by exact recOne R) ?_; generalize hWa : World.setCells _ _ _ _ = W31; have hh := rec_put hX30.out hb30.out (Nat.le_of_eq hg'.out) hWa; have hX31 := hid hh.1; have hb31 := hid hh.2; have x0 := hX31.out.cK 0 _ rfl; have x1 := hX31.out.cK 1 _ rfl; have xf := hX31.out.frozen 1; obtain ⟨W32, hW32⟩ : ∃ V, W31.setCell ⟨g, 1, none⟩ (.string (R.data.extract 0 m20)) = V := ⟨_, rfl⟩; have hb32 := hid (show Below W8.heap.size W8 W32 from by rw [← hW32]; exact hb31.out.setCell (p := ⟨g, 1, none⟩) (Nat.le_of_eq hg'.out) _); have hX32 := hid (show Holds W32 g 25 (recV (cut20 R)) from by rw [← hW32, ← cut20_set R, hm20'.out]; exact hX31.out.set 1 _); have hJ32 := hid (hJ8.out.below hb32.out hJ8.out.lt); have hA32 := hid (hA8.out.on hb32.out); have hB32 := hid (bup hb32.out hB8.out); have hR32 := hid (rows_on hR8.out hb32.out); have hW32' := hid hW32; clear hW32 hWa hh hX30 hb30 hb31 hb32 hJ8 hA8 hB8 hR8)
                | ((with_reducible refine at_slot (some 90) ?_); rw [hW32'.out]; clear x0 x1 xf; refine wpList_load_mid rfl 25 (.tmp 16) rfl g 0 rfl (recV (cut20 R)) _ (by exact h_all hX32.out) Try.underlying25 rfl (by exact recSizeL _) ?_)
                | (go_at_call 12; refine (errNum_any _ _).mono ?_; rintro e w' ⟨rfl, rfl⟩)
                | (go_at_call 17; refine (hap.out _ hJ32.out hA32.out).mono ?_; rintro e W33 ⟨rfl, hb⟩; have hJ33 := hid (hJ32.out.below hb hJ32.out.lt); have hA33 := hid (hA32.out.on hb); have hB33 := hid (bup hb hB32.out); have hR33 := hid (rows_on hR32.out hb); clear hb hJ32 hA32 hB32 hR32)
                | ((with_reducible refine at_slot (some 96) ?_); refine wpList_load_mid rfl 25 (.tmp 16) rfl g 0 rfl (recV (cut20 R)) _ (by exact h_all hX33.out) Try.underlying25 rfl (by exact recSizeL _) ?_)
                | ((with_reducible refine at_slot (some 97) ?_); refine wpList_pushRec rfl rfl (.tmp 96) (.tmp 95) (.tmp 97) rfl rfl w.heap.size A7 l1.length c7 _ (cut20 R) rfl rfl rfl (by have := hl24.out; omega) hR33.out (by exact hB33.out.size) ?_; intro A9 c9 W34 hrow9 hg9; have hR34 := hid hrow9; have hJ34 := hid (hJ33.out.grown hg9 (fun e => recs_ne hR33.out e.symm hJ33.out (by decide) rfl)); have hA34 := hid (hA33.out.grown hg9 (fun e => (recs_dk hR33.out e.symm hA33.out).1 rfl) (fun e => (recs_dk hR33.out e.symm hA33.out).2.1 rfl) (fun e => (recs_dk hR33.out e.symm hA33.out).2.2 rfl)); have hB34 := hid (hB33.out.grown hg9 hB33.out.size (fun k e => (hR33.out.lt k e).1)); clear hrow9 hg9 hJ33 hA33 hB33 hR33)
                | fail)
              go_roundw
              case rel => exact ⟨n1 + 1, l1.length, D8, l1, st1, A7, c7, by omega, by go_num, rfl, rfl, hml.out, Nat.le_succ_of_le hl24.out.2, hone.out, hsi.out, hok1.out, hJ33.out, hA33.out, hR33.out, hB33.out⟩
              case measure => simp [intOf]; omega
            | true =>
              have hfit : st1.used + wholes (41 + (cut20 R).data.size) ≤ 256 := by rw [cut20_w, hused.out]; have := hl24.out; omega
              have hap := hid (fun W hJ hA => append_ok j d r b 256 D8 st1 hf0.1 (cut20 R) hsm hfit W hJ hA hjj.out)
              have hok2 := hok1.out.append (cut20 R) hsm hfit
              have hsi2 : Since (writeS D8 st1.used (recBytes st1.prev st1.seq (cut20 R).kind.toNat (cut20 R).data) (wholes (41 + (cut20 R).data.size))) l1.length := by
                rw [cut20_w]
                refine Since.write (D := D8) hsi.out (by show l1.length ≤ st1.used + 0; rw [hused.out]; exact hml.out) ?_
                have hlt : st1.used < D8.xs.length := by rw [hok1.out.fine.len, hused.out]; have := hl24.out; omega
                obtain ⟨s, hs⟩ : ∃ s, D8.xs[st1.used]? = some s := ⟨_, List.getElem?_eq_getElem hlt⟩
                show D8.xs.getD (st1.used + 0) ⟨#[]⟩ = _
                rw [Nat.add_zero, List.getD_eq_getElem?_getD, hs]
                exact hok1.out.blank _ _ (Nat.le_refl _) hs
              obtain ⟨D2, hD2⟩ : ∃ x, writeS D8 st1.used (recBytes st1.prev st1.seq (cut20 R).kind.toNat (cut20 R).data) (wholes (41 + (cut20 R).data.size)) = x := ⟨_, rfl⟩
              obtain ⟨st2, hst2⟩ : ∃ x, st1.pass (cut20 R) (recBytes st1.prev st1.seq (cut20 R).kind.toNat (cut20 R).data) = x := ⟨_, rfl⟩
              have hxz : (asRB st1 (cut20 R) hsm).1.2.size = 64 := by show (recBytes st1.prev st1.seq (cut20 R).kind.toNat (cut20 R).data).size = 64; rw [recBytes_size, cut20_w]
              obtain ⟨x2, hx2⟩ : ∃ x, asRB st1 (cut20 R) hsm = x := ⟨_, rfl⟩
              have hx2' := hid (show x2.1.1 = cut20 R from by rw [← hx2]; rfl)
              rw [hx2] at hxz
              rw [hD2, hst2] at hap
              rw [hD2] at hsi2
              rw [hD2, hst2, hx2] at hok2
              have hok2' := hid hok2
              have hsi2' := hid hsi2
              have hlen2 := hid (show (l1 ++ [x2]).length = l1.length + 1 from by rw [List.length_append]; rfl)
              have hone2 := hid (show OneEach (l1 ++ [x2]) from fun y hy => by
                rcases List.mem_append.1 hy with h | h
                · exact hone.out y h
                · rw [List.mem_singleton.1 h]; exact hxz)
              clear hok2 hD2 hst2 hx2 hf0 hfit hsm hsi2 hxz
              go_wp2_with (first
                | ((with_reducible refine at_slot (some 16) ?_); refine wpList_run rfl (.pointer (some ⟨g, 0, none⟩)) (W8.alloc (.cells (recV rec0).toArray 25)) (by rw [← hg'.out]; kernel_rfl) ?_)
                | ((with_reducible refine at_slot none ?_); refine wpList_store_mid rfl 25 (.tmp 16) (.tmp 65) rfl g 0 (recV rec0).toArray rfl rfl (by exact rec_there hg'.out rec0) (by exact recSize rec0) (by exact recOne rec0) ?_; generalize hWa : World.setCells _ _ _ _ = W30; have hh := rec_new hg'.out hWa; have hX30 := hid hh.1; have hb30 := hid hh.2; clear hh hWa)
                | ((with_reducible refine at_slot (some 80) ?_); refine wpList_plain rfl fun K hK => ?_; refine wp_load_any 25 (.tmp 79) rfl _ rfl (recV R) _ (by exact hcl.out _ (hB8.out.trans (hb30.out.mono hB8.out.size))) Try.underlying25 rfl (by exact recSizeL R) ?_; refine hK _ _ ?_; clear hK K)
                | ((with_reducible refine at_slot none ?_); refine wpList_store_mid rfl 25 (.tmp 16) (.tmp 80) rfl g 0 (recV R).toArray rfl rfl (by exact hX30.out.there 0 _ (Nat.le_refl _)) (by exact recSize R) (by exact recOne R) ?_; generalize hWa : World.setCells _ _ _ _ = W31; have hh := rec_put hX30.out hb30.out (Nat.le_of_eq hg'.out) hWa; have hX31 := hid hh.1; have hb31 := hid hh.2; have x0 := hX31.out.cK 0 _ rfl; have x1 := hX31.out.cK 1 _ rfl; have xf := hX31.out.frozen 1; obtain ⟨W32, hW32⟩ : ∃ V, W31.setCell ⟨g, 1, none⟩ (.string (R.data.extract 0 m20)) = V := ⟨_, rfl⟩; have hb32 := hid (show Below W8.heap.size W8 W32 from by rw [← hW32]; exact hb31.out.setCell (p := ⟨g, 1, none⟩) (Nat.le_of_eq hg'.out) _); have hX32 := hid (show Holds W32 g 25 (recV (cut20 R)) from by rw [← hW32, ← cut20_set R, hm20'.out]; exact hX31.out.set 1 _); have hJ32 := hid (hJ8.out.below hb32.out hJ8.out.lt); have hA32 := hid (hA8.out.on hb32.out); have hB32 := hid (bup hb32.out hB8.out); have hR32 := hid (rows_on hR8.out hb32.out); have hW32' := hid hW32; clear hW32 hWa hh hX30 hb30 hb31 hb32 hJ8 hA8 hB8 hR8)
                | ((with_reducible refine at_slot (some 90) ?_); rw [hW32'.out]; clear x0 x1 xf; refine wpList_load_mid rfl 25 (.tmp 16) rfl g 0 rfl (recV (cut20 R)) _ (by exact h_all hX32.out) Try.underlying25 rfl (by exact recSizeL _) ?_)
                | (go_at_call 12; refine (errNum_any _ _).mono ?_; rintro e w' ⟨rfl, rfl⟩)
                | (go_at_call 17; refine (hap.out _ hJ32.out hA32.out).mono ?_; rintro e W33 ⟨rfl, hj, hA, hT⟩; have hX33 := hid (hT.holds hX32.out (fun h => by have := hgl.out; rcases h with e | e | e <;> omega)); have hJ33 := hid (show Holds W33 j 67 (jCells d _ _ _) from hj); have hA33 := hid hA; have hB33 := hid (js_below hB32.out hT hjw.out hr.out hb'.out); have hR33 := hid (recs_turnedS hR32.out hA32.out hJ32.out hT); clear hj hA hT hJ32 hA32 hB32 hR32 hX32)
                | ((with_reducible refine at_slot (some 96) ?_); refine wpList_load_mid rfl 25 (.tmp 16) rfl g 0 rfl (recV (cut20 R)) _ (by exact h_all hX33.out) Try.underlying25 rfl (by exact recSizeL _) ?_)
                | ((with_reducible refine at_slot (some 97) ?_); refine wpList_pushRec rfl rfl (.tmp 96) (.tmp 95) (.tmp 97) rfl rfl w.heap.size A7 l1.length c7 _ (cut20 R) rfl rfl rfl (by have := hl24.out; omega) hR33.out (by exact hB33.out.size) ?_; intro A9 c9 W34 hrow9 hg9; have hR34 := hid hrow9; have hJ34 := hid (hJ33.out.grown hg9 (fun e => recs_ne hR33.out e.symm hJ33.out (by decide) rfl)); have hA34 := hid (hA33.out.grown hg9 (fun e => (recs_dk hR33.out e.symm hA33.out).1 rfl) (fun e => (recs_dk hR33.out e.symm hA33.out).2.1 rfl) (fun e => (recs_dk hR33.out e.symm hA33.out).2.2 rfl)); have hB34 := hid (hB33.out.grown hg9 hB33.out.size (fun k e => (hR33.out.lt k e).1)); clear hrow9 hg9 hJ33 hA33 hB33 hR33)
                | fail)
              go_roundw
              case rel => exact ⟨n1 + 1, l1.length, D2, l1 ++ [x2], st2, A9, c9, by omega, by go_num, rfl, by rw [hlen2.out], by rw [hlen2.out]; exact Nat.le_succ_of_le hml.out, by rw [hlen2.out]; exact Nat.succ_le_succ hl24.out.2, hone2.out, hsi2'.out, hok2'.out, hJ34.out, hA34.out, by rw [hlen2.out, recsV_snoc, hx2'.out]; exact hR34.out, hB34.out⟩
              case measure => simp [intOf]; omega
          · have e1 : ((i : Int) == (n1 : Int)) = false := beq_eq_false_iff_ne.2 (by omega)
            obtain ⟨p, R, hpA, hpB, hR, -⟩ := hX2.out.get (k := k2) hkk
            have hcl := hid (fun V (hV : Below w.heap.size w V) => show ∀ j v, (recV R)[j]? = some v → V.cell? ((p.add (k2 * 2)).add j) = some v from by
              obtain ⟨p', R', h1, h2, h3, h4⟩ := (hX2.out.below hV).get (k := k2) hkk
              rw [hpA] at h1
              obtain rfl := Option.some.inj h1
              rw [hR] at h3
              obtain rfl := Option.some.inj h3
              exact h4)
            subst hpA
            clear hR hpB
            obtain ⟨g, hg⟩ : ∃ g, W7.heap.size = g := ⟨_, rfl⟩
            have hg' := hid hg
            have hgl := hid (show d < g ∧ r < g ∧ b < g ∧ j < g ∧ w.heap.size ≤ g from by
              have h1 := hA7.out.lt
              have h2 := hJ7.out.lt
              have h3 := hB7.out.size
              omega)
            clear hg
            have em : min (R.data.size : Int) 20 = ((min R.data.size 20 : Nat) : Int) := by omega
            have em2 : ((min R.data.size 20 : Nat) : Int) ≤ (R.data.size : Int) := by omega
            have em3 : (0 : Int) ≤ ((min R.data.size 20 : Nat) : Int) := by omega
            obtain ⟨m20, hm20⟩ : ∃ m, min R.data.size 20 = m := ⟨_, rfl⟩
            rw [hm20] at em em2 em3
            have hm20' := hid hm20
            clear hm20
            have hf0 := hok1.out.facts
            have hused := hid (show st1.used = l1.length from by
              rw [stand_over hok1.out.chain, over_one hone.out]
              exact Nat.zero_add _)
            cases hsm : sealMay (st1.seq : Int) (cut20 R) with
            | false =>
              have hap := hid (fun W hJ hA => append_bad j d r b 256 D1 st1 hf0.1 (cut20 R) hsm W hJ hA)
              clear hf0 hsm
              go_wp2_with (first
                | ((with_reducible refine at_slot (some 16) ?_); refine wpList_run rfl (.pointer (some ⟨g, 0, none⟩)) (W7.alloc (.cells (recV rec0).toArray 25)) (by rw [← hg'.out]; kernel_rfl) ?_)
                | ((with_reducible refine at_slot none ?_); refine wpList_store_mid rfl 25 (.tmp 16) (.tmp 65) rfl g 0 (recV rec0).toArray rfl rfl (by exact rec_there hg'.out rec0) (by exact recSize rec0) (by exact recOne rec0) ?_; generalize hWa : World.setCells _ _ _ _ = W30; have hh := rec_new hg'.out hWa; have hX30 := hid hh.1; have hb30 := hid hh.2; clear hh hWa)
                | ((with_reducible refine at_slot (some 80) ?_); refine wpList_plain rfl fun K hK => ?_; refine wp_load_any 25 (.tmp 79) rfl _ rfl (recV R) _ (by exact hcl.out _ (hB7.out.trans (hb30.out.mono hB7.out.size))) Try.underlying25 rfl (by exact recSizeL R) ?_; refine hK _ _ ?_; clear hK K)
                | ((with_reducible refine at_slot none ?_); refine wpList_store_mid rfl 25 (.tmp 16) (.tmp 80) rfl g 0 (recV R).toArray rfl rfl (by exact hX30.out.there 0 _ (Nat.le_refl _)) (by exact recSize R) (by exact recOne R) ?_; generalize hWa : World.setCells _ _ _ _ = W31; have hh := rec_put hX30.out hb30.out (Nat.le_of_eq hg'.out) hWa; have hX31 := hid hh.1; have hb31 := hid hh.2; have x0 := hX31.out.cK 0 _ rfl; have x1 := hX31.out.cK 1 _ rfl; have xf := hX31.out.frozen 1; obtain ⟨W32, hW32⟩ : ∃ V, W31.setCell ⟨g, 1, none⟩ (.string (R.data.extract 0 m20)) = V := ⟨_, rfl⟩; have hb32 := hid (show Below W7.heap.size W7 W32 from by rw [← hW32]; exact hb31.out.setCell (p := ⟨g, 1, none⟩) (Nat.le_of_eq hg'.out) _); have hX32 := hid (show Holds W32 g 25 (recV (cut20 R)) from by rw [← hW32, ← cut20_set R, hm20'.out]; exact hX31.out.set 1 _); have hJ32 := hid (hJ7.out.below hb32.out hJ7.out.lt); have hA32 := hid (hA7.out.on hb32.out); have hB32 := hid (bup hb32.out hB7.out); have hR32 := hid (rows_on hR7.out hb32.out); have hW32' := hid hW32; clear hW32 hWa hh hX30 hb30 hb31 hb32 hJ7 hA7 hB7 hR7)
                | ((with_reducible refine at_slot (some 90) ?_); rw [hW32'.out]; clear x0 x1 xf; refine wpList_load_mid rfl 25 (.tmp 16) rfl g 0 rfl (recV (cut20 R)) _ (by exact h_all hX32.out) Try.underlying25 rfl (by exact recSizeL _) ?_)
                | (go_at_call 12; refine (errNum_any _ _).mono ?_; rintro e w' ⟨rfl, rfl⟩)
                | (go_at_call 17; refine (hap.out _ hJ32.out hA32.out).mono ?_; rintro e W33 ⟨rfl, hb⟩; have hJ33 := hid (hJ32.out.below hb hJ32.out.lt); have hA33 := hid (hA32.out.on hb); have hB33 := hid (bup hb hB32.out); have hR33 := hid (rows_on hR32.out hb); clear hb hJ32 hA32 hB32 hR32)
                | ((with_reducible refine at_slot (some 96) ?_); refine wpList_load_mid rfl 25 (.tmp 16) rfl g 0 rfl (recV (cut20 R)) _ (by exact h_all hX33.out) Try.underlying25 rfl (by exact recSizeL _) ?_)
                | ((with_reducible refine at_slot (some 97) ?_); refine wpList_pushRec rfl rfl (.tmp 96) (.tmp 95) (.tmp 97) rfl rfl w.heap.size A7 l1.length c7 _ (cut20 R) rfl rfl rfl (by have := hl24.out; omega) hR33.out (by exact hB33.out.size) ?_; intro A9 c9 W34 hrow9 hg9; have hR34 := hid hrow9; have hJ34 := hid (hJ33.out.grown hg9 (fun e => recs_ne hR33.out e.symm hJ33.out (by decide) rfl)); have hA34 := hid (hA33.out.grown hg9 (fun e => (recs_dk hR33.out e.symm hA33.out).1 rfl) (fun e => (recs_dk hR33.out e.symm hA33.out).2.1 rfl) (fun e => (recs_dk hR33.out e.symm hA33.out).2.2 rfl)); have hB34 := hid (hB33.out.grown hg9 hB33.out.size (fun k e => (hR33.out.lt k e).1)); clear hrow9 hg9 hJ33 hA33 hB33 hR33)
                | fail)
              go_roundw
              case rel => exact ⟨i + 1, must, D1, l1, st1, A7, c7, by omega, by go_num, rfl, rfl, hml.out, Nat.le_succ_of_le hl24.out.2, hone.out, hsi.out, hok1.out, hJ33.out, hA33.out, hR33.out, hB33.out⟩
              case measure => simp [intOf]; omega
            | true =>
              have hfit : st1.used + wholes (41 + (cut20 R).data.size) ≤ 256 := by rw [cut20_w, hused.out]; have := hl24.out; omega
              have hap := hid (fun W hJ hA => append_ok j d r b 256 D1 st1 hf0.1 (cut20 R) hsm hfit W hJ hA hjj.out)
              have hok2 := hok1.out.append (cut20 R) hsm hfit
              have hsi2 : Since (writeS D1 st1.used (recBytes st1.prev st1.seq (cut20 R).kind.toNat (cut20 R).data) (wholes (41 + (cut20 R).data.size))) must := by
                rw [cut20_w]
                refine Since.write (D := D1) hsi.out (by show must ≤ st1.used + 0; rw [hused.out]; exact hml.out) ?_
                have hlt : st1.used < D1.xs.length := by rw [hok1.out.fine.len, hused.out]; have := hl24.out; omega
                obtain ⟨s, hs⟩ : ∃ s, D1.xs[st1.used]? = some s := ⟨_, List.getElem?_eq_getElem hlt⟩
                show D1.xs.getD (st1.used + 0) ⟨#[]⟩ = _
                rw [Nat.add_zero, List.getD_eq_getElem?_getD, hs]
                exact hok1.out.blank _ _ (Nat.le_refl _) hs
              obtain ⟨D2, hD2⟩ : ∃ x, writeS D1 st1.used (recBytes st1.prev st1.seq (cut20 R).kind.toNat (cut20 R).data) (wholes (41 + (cut20 R).data.size)) = x := ⟨_, rfl⟩
              obtain ⟨st2, hst2⟩ : ∃ x, st1.pass (cut20 R) (recBytes st1.prev st1.seq (cut20 R).kind.toNat (cut20 R).data) = x := ⟨_, rfl⟩
              have hxz : (asRB st1 (cut20 R) hsm).1.2.size = 64 := by show (recBytes st1.prev st1.seq (cut20 R).kind.toNat (cut20 R).data).size = 64; rw [recBytes_size, cut20_w]
              obtain ⟨x2, hx2⟩ : ∃ x, asRB st1 (cut20 R) hsm = x := ⟨_, rfl⟩
              have hx2' := hid (show x2.1.1 = cut20 R from by rw [← hx2]; rfl)
              rw [hx2] at hxz
              rw [hD2, hst2] at hap
              rw [hD2] at hsi2
              rw [hD2, hst2, hx2] at hok2
              have hok2' := hid hok2
              have hsi2' := hid hsi2
              have hlen2 := hid (show (l1 ++ [x2]).length = l1.length + 1 from by rw [List.length_append]; rfl)
              have hone2 := hid (show OneEach (l1 ++ [x2]) from fun y hy => by
                rcases List.mem_append.1 hy with h | h
                · exact hone.out y h
                · rw [List.mem_singleton.1 h]; exact hxz)
              clear hok2 hD2 hst2 hx2 hf0 hfit hsm hsi2 hxz
              go_wp2_with (first
                | ((with_reducible refine at_slot (some 16) ?_); refine wpList_run rfl (.pointer (some ⟨g, 0, none⟩)) (W7.alloc (.cells (recV rec0).toArray 25)) (by rw [← hg'.out]; kernel_rfl) ?_)
                | ((with_reducible refine at_slot none ?_); refine wpList_store_mid rfl 25 (.tmp 16) (.tmp 65) rfl g 0 (recV rec0).toArray rfl rfl (by exact rec_there hg'.out rec0) (by exact recSize rec0) (by exact recOne rec0) ?_; generalize hWa : World.setCells _ _ _ _ = W30; have hh := rec_new hg'.out hWa; have hX30 := hid hh.1; have hb30 := hid hh.2; clear hh hWa)
                | ((with_reducible refine at_slot (some 80) ?_); refine wpList_plain rfl fun K hK => ?_; refine wp_load_any 25 (.tmp 79) rfl _ rfl (recV R) _ (by exact hcl.out _ (hB7.out.trans (hb30.out.mono hB7.out.size))) Try.underlying25 rfl (by exact recSizeL R) ?_; refine hK _ _ ?_; clear hK K)
                | ((with_reducible refine at_slot none ?_); refine wpList_store_mid rfl 25 (.tmp 16) (.tmp 80) rfl g 0 (recV R).toArray rfl rfl (by exact hX30.out.there 0 _ (Nat.le_refl _)) (by exact recSize R) (by exact recOne R) ?_; generalize hWa : World.setCells _ _ _ _ = W31; have hh := rec_put hX30.out hb30.out (Nat.le_of_eq hg'.out) hWa; have hX31 := hid hh.1; have hb31 := hid hh.2; have x0 := hX31.out.cK 0 _ rfl; have x1 := hX31.out.cK 1 _ rfl; have xf := hX31.out.frozen 1; obtain ⟨W32, hW32⟩ : ∃ V, W31.setCell ⟨g, 1, none⟩ (.string (R.data.extract 0 m20)) = V := ⟨_, rfl⟩; have hb32 := hid (show Below W7.heap.size W7 W32 from by rw [← hW32]; exact hb31.out.setCell (p := ⟨g, 1, none⟩) (Nat.le_of_eq hg'.out) _); have hX32 := hid (show Holds W32 g 25 (recV (cut20 R)) from by rw [← hW32, ← cut20_set R, hm20'.out]; exact hX31.out.set 1 _); have hJ32 := hid (hJ7.out.below hb32.out hJ7.out.lt); have hA32 := hid (hA7.out.on hb32.out); have hB32 := hid (bup hb32.out hB7.out); have hR32 := hid (rows_on hR7.out hb32.out); have hW32' := hid hW32; clear hW32 hWa hh hX30 hb30 hb31 hb32 hJ7 hA7 hB7 hR7)
                | ((with_reducible refine at_slot (some 90) ?_); rw [hW32'.out]; clear x0 x1 xf; refine wpList_load_mid rfl 25 (.tmp 16) rfl g 0 rfl (recV (cut20 R)) _ (by exact h_all hX32.out) Try.underlying25 rfl (by exact recSizeL _) ?_)
                | (go_at_call 12; refine (errNum_any _ _).mono ?_; rintro e w' ⟨rfl, rfl⟩)
                | (go_at_call 17; refine (hap.out _ hJ32.out hA32.out).mono ?_; rintro e W33 ⟨rfl, hj, hA, hT⟩; have hX33 := hid (hT.holds hX32.out (fun h => by have := hgl.out; rcases h with e | e | e <;> omega)); have hJ33 := hid (show Holds W33 j 67 (jCells d _ _ _) from hj); have hA33 := hid hA; have hB33 := hid (js_below hB32.out hT hjw.out hr.out hb'.out); have hR33 := hid (recs_turnedS hR32.out hA32.out hJ32.out hT); clear hj hA hT hJ32 hA32 hB32 hR32 hX32)
                | ((with_reducible refine at_slot (some 96) ?_); refine wpList_load_mid rfl 25 (.tmp 16) rfl g 0 rfl (recV (cut20 R)) _ (by exact h_all hX33.out) Try.underlying25 rfl (by exact recSizeL _) ?_)
                | ((with_reducible refine at_slot (some 97) ?_); refine wpList_pushRec rfl rfl (.tmp 96) (.tmp 95) (.tmp 97) rfl rfl w.heap.size A7 l1.length c7 _ (cut20 R) rfl rfl rfl (by have := hl24.out; omega) hR33.out (by exact hB33.out.size) ?_; intro A9 c9 W34 hrow9 hg9; have hR34 := hid hrow9; have hJ34 := hid (hJ33.out.grown hg9 (fun e => recs_ne hR33.out e.symm hJ33.out (by decide) rfl)); have hA34 := hid (hA33.out.grown hg9 (fun e => (recs_dk hR33.out e.symm hA33.out).1 rfl) (fun e => (recs_dk hR33.out e.symm hA33.out).2.1 rfl) (fun e => (recs_dk hR33.out e.symm hA33.out).2.2 rfl)); have hB34 := hid (hB33.out.grown hg9 hB33.out.size (fun k e => (hR33.out.lt k e).1)); clear hrow9 hg9 hJ33 hA33 hB33 hR33)
                | fail)
              go_roundw
              case rel => exact ⟨i + 1, must, D2, l1 ++ [x2], st2, A9, c9, by omega, by go_num, rfl, by rw [hlen2.out], by rw [hlen2.out]; exact Nat.le_succ_of_le hml.out, by rw [hlen2.out]; exact Nat.succ_le_succ hl24.out.2, hone2.out, hsi2'.out, hok2'.out, hJ34.out, hA34.out, by rw [hlen2.out, recsV_snoc, hx2'.out]; exact hR34.out, hB34.out⟩
              case measure => simp [intOf]; omega
      · have hi2 : ¬ (i : Int) < 24 := by omega
        obtain ⟨m, st9, hm1, hm2, hst9, hn9⟩ := crash_stands keep hok1.out hone.out hsi.out hml.out
        have hlm : (l1.take m).length = m := by rw [List.length_take]; omega
        have hcr := hid (fun W hA => dkCrash_any keep d r b 256 D1 W hA)
        have hop := hid (fun W hA => open_st d r b 256 (D1.crash keep) (l1.take m) st9 hst9 hn9 W hA)
        rw [hlm] at hop
        have hcap := own_cap hR7.out
        have g1 : (must : Int) ≤ (m : Int) := by omega
        have g2 : (m : Int) ≤ (l1.length : Int) := by omega
        have g3 : (m : Int) ≤ (c7 : Int) := by omega
        have g4 : (0 : Int) ≤ (m : Int) := by omega
        have hlm' := hid hlm
        have hm2' := hid hm2
        clear hst9 hn9 hlm hcap hm1 hm2
        go_wp2_with (first
          | (go_at_call 18; refine (hcr.out _ hA7.out).mono ?_; rintro e W8 ⟨rfl, hA, hT⟩; have hA8 := hid hA; have hB8 := hid (dk_below8 hB7.out hT hr.out hb'.out); have hR8 := hid (recs_turned hR7.out hA7.out hT); clear hA hT hA7 hB7 hR7)
          | (go_at_call 15; refine (hop.out _ hA8.out).mono ?_; rintro e W9 ⟨j2, A9, c9, rfl, hj2, hrow9, hA, hT, hjl⟩; have hB9 := hid (dk_below8 hB8.out hT hr.out hb'.out); have hR9 := hid (recs_turned hR8.out hA8.out hT); have hS9 := hid (show RecsA W9 W9.heap.size A9 m ((l1.take m).map (·.1.1)) from by have h := RecsA.of_row (l := l1.take m) (by rw [hlm'.out]; exact hrow9); rw [hlm'.out] at h; exact h); clear hj2 hrow9 hA hT hjl hA8 hB8 hR8)
          | (go_at_call 12; refine (errNum_any _ _).mono ?_; rintro e w' ⟨rfl, rfl⟩)
          | (go_at_call 19; refine (sameRecs_any A9 A7 m c9 c7 ((l1.take m).map (·.1.1)) _ hS9.out (by rw [List.map_take]; exact (RecsA.of_row hR9.out).take hm2'.out) (by have := hm2'.out; have := hl24.out; omega)).mono ?_; rintro e W10 ⟨rfl, hb⟩; have hB10 := hid (bup hb hB9.out); clear hb hB9 hR9 hS9)
          | fail)
        go_ret
        exact ⟨rfl, hB10.out⟩
    · have hi1 : ¬ (i : Int) < (S : Int) := by omega
      obtain ⟨m, st9, hm1, hm2, hst9, hn9⟩ := crash_stands keep hok1.out hone.out hsi.out hml.out
      have hlm : (l1.take m).length = m := by rw [List.length_take]; omega
      have hcr := hid (fun W hA => dkCrash_any keep d r b 256 D1 W hA)
      have hop := hid (fun W hA => open_st d r b 256 (D1.crash keep) (l1.take m) st9 hst9 hn9 W hA)
      rw [hlm] at hop
      have hcap := own_cap hR7.out
      have g1 : (must : Int) ≤ (m : Int) := by omega
      have g2 : (m : Int) ≤ (l1.length : Int) := by omega
      have g3 : (m : Int) ≤ (c7 : Int) := by omega
      have g4 : (0 : Int) ≤ (m : Int) := by omega
      have hlm' := hid hlm
      have hm2' := hid hm2
      clear hst9 hn9 hlm hcap hm1 hm2
      go_wp2_with (first
        | (go_at_call 18; refine (hcr.out _ hA7.out).mono ?_; rintro e W8 ⟨rfl, hA, hT⟩; have hA8 := hid hA; have hB8 := hid (dk_below8 hB7.out hT hr.out hb'.out); have hR8 := hid (recs_turned hR7.out hA7.out hT); clear hA hT hA7 hB7 hR7)
        | (go_at_call 15; refine (hop.out _ hA8.out).mono ?_; rintro e W9 ⟨j2, A9, c9, rfl, hj2, hrow9, hA, hT, hjl⟩; have hB9 := hid (dk_below8 hB8.out hT hr.out hb'.out); have hR9 := hid (recs_turned hR8.out hA8.out hT); have hS9 := hid (show RecsA W9 W9.heap.size A9 m ((l1.take m).map (·.1.1)) from by have h := RecsA.of_row (l := l1.take m) (by rw [hlm'.out]; exact hrow9); rw [hlm'.out] at h; exact h); clear hj2 hrow9 hA hT hjl hA8 hB8 hR8)
        | (go_at_call 12; refine (errNum_any _ _).mono ?_; rintro e w' ⟨rfl, rfl⟩)
        | (go_at_call 19; refine (sameRecs_any A9 A7 m c9 c7 ((l1.take m).map (·.1.1)) _ hS9.out (by rw [List.map_take]; exact (RecsA.of_row hR9.out).take hm2'.out) (by have := hm2'.out; have := hl24.out; omega)).mono ?_; rintro e W10 ⟨rfl, hb⟩; have hB10 := hid (bup hb hB9.out); clear hb hB9 hR9 hS9)
        | fail)
      go_ret
      exact ⟨rfl, hB10.out⟩

end Go.Proofs.Ytlicmbmhcpfocaa
