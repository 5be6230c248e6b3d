/- Layer 8: the law JournalStale. -/
import Derived.Test.YtlicmbmhcpfocaaJnZ
namespace Go.Proofs.Ytlicmbmhcpfocaa
open Go.RowKit
open Go.Lib (strCells strCells_length strCells_oneCell)
attribute [local irreducible] Sha.compress Sha.blocks Sha.sha Sha.pad

theorem one_used {D : Dk} {n : Nat} {l : Stood} {st : JSt} (h : JOk D n l st) (h1 : OneEach l) : st.used = l.length := by
  rw [stand_over h.chain, over_one h1]
  exact Nat.zero_add _
theorem one_more {l : Stood} {x : RB} (h : OneEach l) (hx : x.1.2.size = 64) : OneEach (l ++ [x]) := fun y hy => by
  rcases List.mem_append.1 hy with h2 | h2
  · exact h y h2
  · rw [List.mem_singleton.1 h2]; exact hx
theorem since_more {D : Dk} {n k : Nat} {l : Stood} {st : JSt} (R : Rec) (h : JOk D n l st) (h1 : OneEach l) (hs : Since D k) (hk : k ≤ l.length) (hn : l.length < n) :
    Since (writeS D st.used (recBytes st.prev st.seq (cut20 R).kind.toNat (cut20 R).data) (wholes (41 + (cut20 R).data.size))) k := by
  have hu := one_used h h1
  rw [cut20_w]
  refine Since.write (D := D) hs (by show k ≤ st.used + 0; rw [hu]; exact hk) ?_
  have hlt : st.used < D.xs.length := by rw [h.fine.len, hu]; exact hn
  obtain ⟨s, hs2⟩ : ∃ s, D.xs[st.used]? = some s := ⟨_, List.getElem?_eq_getElem hlt⟩
  show D.xs.getD (st.used + 0) ⟨#[]⟩ = _
  rw [Nat.add_zero, List.getD_eq_getElem?_getD, hs2]
  exact h.blank _ _ (Nat.le_refl _) hs2

set_option maxRecDepth 100000 in
set_option maxHeartbeats 60000000 in
theorem JournalStale_law (A1 : Option Addr) (n1 c1 : Nat) (xs1 : List Rec) {w : World} (h1 : RecsA w w.heap.size A1 n1 xs1) (_ : n1 ≤ maxLen) (A2 : Option Addr) (n2 c2 : Nat) (xs2 : List Rec) (h2 : RecsA w w.heap.size A2 n2 xs2) (_ : n2 ≤ maxLen) (A3 : Option Addr) (n3 c3 : Nat) (xs3 : List Rec) (h3 : RecsA w w.heap.size A3 n3 xs3) (_ : n3 ≤ maxLen) (keep : Int) :
    Calls Try.prog 8 #[.slice A1 n1 c1, .slice A2 n2 c2, .slice A3 n3 c3, .int .i64 keep] w fun e w' => e = .returned (.bool true) ∧ Below w.heap.size w w' := by
  have hX1 := hid h1
  have hX2 := hid h2
  have hX3 := hid h3
  clear h1 h2 h3
  go_enter Try.func8, Try.ntmps8
  go_wp2_with (first
    | (go_at_call 13; refine (awake8_any _).mono ?_; rintro e W1 ⟨rfl, hb⟩; have hB1 := hid hb; clear hb)
    | fail)
  have hN := hid (dkNew_yes 256 (by decide) (by decide) W1)
  obtain ⟨d, hd⟩ : ∃ d, W1.heap.size + 2 = d := ⟨_, rfl⟩
  obtain ⟨r, hr0⟩ : ∃ r, W1.heap.size = r := ⟨_, rfl⟩
  obtain ⟨b, hb0⟩ : ∃ b, W1.heap.size + 1 = b := ⟨_, rfl⟩
  have hr := hid (show w.heap.size ≤ r from by have := hB1.out.size; omega)
  have hb' := hid (show w.heap.size ≤ b from by have := hB1.out.size; omega)
  have hN' := hid (show Calls Try.prog 14 #[.int .i64 256] W1 fun e w' => e = .returned (.tuple #[.pointer (some ⟨d, 0, none⟩), .int .i64 0]) ∧ DiskAt w' d r b 256 (Dk.new 256) ∧ Below W1.heap.size W1 w' from by
    have h := hN.out
    rw [hd, hb0] at h
    exact h.mono fun e w' h2 => ⟨h2.1, by rw [← hr0]; exact h2.2.1, h2.2.2⟩)
  clear hN hd hr0 hb0
  refine hN'.out.mono ?_
  rintro e W2 ⟨rfl, hA, hb⟩
  have hA2 := hid hA
  have hB2 := hid (bup hb hB1.out)
  clear hA hb hN' hB1
  go_wp2_with fail
  refine (open_ok d r b 256 (Dk.new 256) [] JSt.start (JOk.new 256) _ hA2.out).mono ?_
  rintro e W3 ⟨j, A0, c0, rfl, hj, hrow0, hA, hk0, hT, hjl⟩
  have hjj := hid (show j ≠ r ∧ j ≠ b ∧ j ≠ d from by have := hA2.out.lt; omega)
  have hjw := hid (show w.heap.size ≤ j from Nat.le_trans hB2.out.size hjl)
  have hJ3 := hid hj
  have hA3 := hid hA
  have hB3 := hid (dk_below8 hB2.out hT hr.out hb'.out)
  have hok0 := hid hk0
  have hl0 := hid (show ([] : Stood).length ≤ 0 + 0 from Nat.le_refl _)
  have hone0 := hid (show OneEach [] from fun x hx => by cases hx)
  clear hA2 hB2 hj hrow0 hA hk0 hT hjl
  go_wp2_with (first
    | (go_at_call 12; refine (errNum_any _ _).mono ?_; rintro e w' ⟨rfl, rfl⟩)
    | fail)
  go_loopw [14] (fun ix wr => ∃ (i : Nat) (D : Dk) (l : Stood) (st : JSt), i ≤ 5 ∧ ix = .int .i64 (i : Int) ∧ l.length ≤ 0 + i ∧ OneEach l ∧ JOk D 256 l st ∧ Holds wr j 67 (jCells d st.prev (st.seq : Int) (st.used : Int)) ∧ DiskAt wr d r b 256 D ∧ Below w.heap.size w wr) (fun ix _ => 5 - (intOf ix).toNat)
  case atStart => exact ⟨0, _, _, _, Nat.zero_le _, rfl, hl0.out, hone0.out, hok0.out, hJ3.out, hA3.out, hB3.out⟩
  case round =>
    obtain ⟨i, D1, l1, st1, hilim, rfl, hli, hone, hok, hj, hA, hB⟩ := hrel
    obtain ⟨W4, rfl⟩ : ∃ V, V = wr := ⟨_, rfl⟩
    have hJ4 := hid hj
    have hA4 := hid hA
    have hB4 := hid hB
    skip
    have hok1 := hid hok
    have hone := hid hone
    skip
    have hl24 := hid (show l1.length ≤ 0 + i from hli)
    clear hj hA hB hok hli
    have u2 := IntWalk.i64_in ((i : Int) + 1) (by omega)
    by_cases hkk : i < n1
    · have hi1 : (i : Int) < (n1 : Int) := by omega
      by_cases hi92 : i < 5
      · have hi2 : (i : Int) < 5 := by omega
        have hi0 : (0 : Int) ≤ (i : Int) := by omega
        obtain ⟨p, R, hpA, hpB, hR, -⟩ := hX1.out.get (k := i) hkk
        have hcl := hid (fun V (hV : Below w.heap.size w V) => show ∀ j v, (recV R)[j]? = some v → V.cell? ((p.add (i * 2)).add j) = some v from by
          obtain ⟨p', R', h1, h2, h3, h4⟩ := (hX1.out.below hV).get (k := i) hkk
          rw [hpA] at h1
          obtain rfl := Option.some.inj h1
          rw [hR] at h3
          obtain rfl := Option.some.inj h3
          exact h4)
        subst hpA
        clear hR hpB
        obtain ⟨g, hg⟩ : ∃ g, W4.heap.size = g := ⟨_, rfl⟩
        have hg' := hid hg
        have hgl := hid (show d < g ∧ r < g ∧ b < g ∧ j < g ∧ w.heap.size ≤ g from by
          have h1 := hA4.out.lt
          have h2 := hJ4.out.lt
          have h3 := hB4.out.size
          omega)
        clear hg
        have em : min (R.data.size : Int) 20 = ((min R.data.size 20 : Nat) : Int) := by omega
        have em2 : ((min R.data.size 20 : Nat) : Int) ≤ (R.data.size : Int) := by omega
        have em3 : (0 : Int) ≤ ((min R.data.size 20 : Nat) : Int) := by omega
        obtain ⟨m20, hm20⟩ : ∃ m, min R.data.size 20 = m := ⟨_, rfl⟩
        rw [hm20] at em em2 em3
        have hm20' := hid hm20
        clear hm20
        have hf0 := hok1.out.facts
        have hused := hid (one_used hok1.out hone.out)
        cases hsm : sealMay (st1.seq : Int) (cut20 R) with
        | false =>
          have hap := hid (fun W hJ hA => append_bad j d r b 256 D1 st1 hf0.1 (cut20 R) hsm W hJ hA)
          clear hf0 hsm
          go_wp2_with (first
            | ((with_reducible refine at_slot (some 59) ?_); refine wpList_plain rfl fun K hK => ?_; refine wp_load_any 25 (.tmp 58) rfl _ rfl (recV R) _ (by exact hcl.out _ hB4.out) Try.underlying25 rfl (by exact recSizeL R) ?_; refine hK _ _ ?_; clear hK K)
            | ((with_reducible refine at_slot (some 15) ?_); refine wpList_run rfl (.pointer (some ⟨g, 0, none⟩)) (W4.alloc (.cells (recV rec0).toArray 25)) (by rw [← hg'.out]; kernel_rfl) ?_)
            | ((with_reducible refine at_slot none ?_); refine wpList_store_mid rfl 25 (.tmp 15) (.tmp 59) rfl g 0 (recV R).toArray rfl rfl (by exact rec_there hg'.out R) (by exact recSize R) (by exact recOne R) ?_; generalize hWa : World.setCells _ _ _ _ = W31; have hh := rec_new hg'.out hWa; have hX31 := hid hh.1; have hb31 := hid hh.2; have x0 := hX31.out.cK 0 _ rfl; have x1 := hX31.out.cK 1 _ rfl; have xf := hX31.out.frozen 1; obtain ⟨W32, hW32⟩ : ∃ V, W31.setCell ⟨g, 1, none⟩ (.string (R.data.extract 0 m20)) = V := ⟨_, rfl⟩; have hb32 := hid (show Below W4.heap.size W4 W32 from by rw [← hW32]; exact hb31.out.setCell (p := ⟨g, 1, none⟩) (Nat.le_of_eq hg'.out) _); have hX32 := hid (show Holds W32 g 25 (recV (cut20 R)) from by rw [← hW32, ← cut20_set R, hm20'.out]; exact hX31.out.set 1 _); have hJ32 := hid (hJ4.out.below hb32.out hJ4.out.lt); have hA32 := hid (hA4.out.on hb32.out); have hB32 := hid (bup hb32.out hB4.out); have hW32' := hid hW32; clear hW32 hWa hh hb31 hb32 hJ4 hA4 hB4 )
            | ((with_reducible refine at_slot (some 69) ?_); rw [hW32'.out]; clear x0 x1 xf; refine wpList_load_mid rfl 25 (.tmp 15) rfl g 0 rfl (recV (cut20 R)) _ (by exact h_all hX32.out) Try.underlying25 rfl (by exact recSizeL _) ?_)
            | (go_at_call 12; refine (errNum_any _ _).mono ?_; rintro e w' ⟨rfl, rfl⟩)
            | (go_at_call 17; refine (hap.out _ hJ32.out hA32.out).mono ?_; rintro e W33 ⟨rfl, hb⟩; have hJ33 := hid (hJ32.out.below hb hJ32.out.lt); have hA33 := hid (hA32.out.on hb); have hB33 := hid (bup hb hB32.out); clear hb hJ32 hA32 hB32)
            | fail)
          go_roundw
          case rel => exact ⟨i + 1, D1, l1, st1, by omega, by go_num, by have := hl24.out; omega, hone.out, hok1.out, hJ33.out, hA33.out, hB33.out⟩
          case measure => simp [intOf]; omega
        | true =>
          have hfit : st1.used + wholes (41 + (cut20 R).data.size) ≤ 256 := by rw [cut20_w, hused.out]; have := hl24.out; omega
          have hap := hid (fun W hJ hA => append_ok j d r b 256 D1 st1 hf0.1 (cut20 R) hsm hfit W hJ hA hjj.out)
          have hok2 := hok1.out.append (cut20 R) hsm hfit
          skip
          obtain ⟨D2, hD2⟩ : ∃ x, writeS D1 st1.used (recBytes st1.prev st1.seq (cut20 R).kind.toNat (cut20 R).data) (wholes (41 + (cut20 R).data.size)) = x := ⟨_, rfl⟩
          obtain ⟨st2, hst2⟩ : ∃ x, st1.pass (cut20 R) (recBytes st1.prev st1.seq (cut20 R).kind.toNat (cut20 R).data) = x := ⟨_, rfl⟩
          have hxz : (asRB st1 (cut20 R) hsm).1.2.size = 64 := by show (recBytes st1.prev st1.seq (cut20 R).kind.toNat (cut20 R).data).size = 64; rw [recBytes_size, cut20_w]
          obtain ⟨x2, hx2⟩ : ∃ x, asRB st1 (cut20 R) hsm = x := ⟨_, rfl⟩
          have hx2' := hid (show x2.1.1 = cut20 R from by rw [← hx2]; rfl)
          rw [hx2] at hxz
          rw [hD2, hst2] at hap
          skip
          rw [hD2, hst2, hx2] at hok2
          have hok2' := hid hok2
          have hlen2 := hid (show (l1 ++ [x2]).length = l1.length + 1 from by rw [List.length_append]; rfl)
          have hone2 := hid (one_more hone.out hxz)
          clear hok2 hD2 hst2 hx2 hf0 hfit hsm hxz
          go_wp2_with (first
            | ((with_reducible refine at_slot (some 59) ?_); refine wpList_plain rfl fun K hK => ?_; refine wp_load_any 25 (.tmp 58) rfl _ rfl (recV R) _ (by exact hcl.out _ hB4.out) Try.underlying25 rfl (by exact recSizeL R) ?_; refine hK _ _ ?_; clear hK K)
            | ((with_reducible refine at_slot (some 15) ?_); refine wpList_run rfl (.pointer (some ⟨g, 0, none⟩)) (W4.alloc (.cells (recV rec0).toArray 25)) (by rw [← hg'.out]; kernel_rfl) ?_)
            | ((with_reducible refine at_slot none ?_); refine wpList_store_mid rfl 25 (.tmp 15) (.tmp 59) rfl g 0 (recV R).toArray rfl rfl (by exact rec_there hg'.out R) (by exact recSize R) (by exact recOne R) ?_; generalize hWa : World.setCells _ _ _ _ = W31; have hh := rec_new hg'.out hWa; have hX31 := hid hh.1; have hb31 := hid hh.2; have x0 := hX31.out.cK 0 _ rfl; have x1 := hX31.out.cK 1 _ rfl; have xf := hX31.out.frozen 1; obtain ⟨W32, hW32⟩ : ∃ V, W31.setCell ⟨g, 1, none⟩ (.string (R.data.extract 0 m20)) = V := ⟨_, rfl⟩; have hb32 := hid (show Below W4.heap.size W4 W32 from by rw [← hW32]; exact hb31.out.setCell (p := ⟨g, 1, none⟩) (Nat.le_of_eq hg'.out) _); have hX32 := hid (show Holds W32 g 25 (recV (cut20 R)) from by rw [← hW32, ← cut20_set R, hm20'.out]; exact hX31.out.set 1 _); have hJ32 := hid (hJ4.out.below hb32.out hJ4.out.lt); have hA32 := hid (hA4.out.on hb32.out); have hB32 := hid (bup hb32.out hB4.out); have hW32' := hid hW32; clear hW32 hWa hh hb31 hb32 hJ4 hA4 hB4 )
            | ((with_reducible refine at_slot (some 69) ?_); rw [hW32'.out]; clear x0 x1 xf; refine wpList_load_mid rfl 25 (.tmp 15) rfl g 0 rfl (recV (cut20 R)) _ (by exact h_all hX32.out) Try.underlying25 rfl (by exact recSizeL _) ?_)
            | (go_at_call 12; refine (errNum_any _ _).mono ?_; rintro e w' ⟨rfl, rfl⟩)
            | (go_at_call 17; refine (hap.out _ hJ32.out hA32.out).mono ?_; rintro e W33 ⟨rfl, hj, hA, hT⟩; have hX33 := hid (hT.holds hX32.out (fun h => by have := hgl.out; rcases h with e | e | e <;> omega)); have hJ33 := hid (show Holds W33 j 67 (jCells d _ _ _) from hj); have hA33 := hid hA; have hB33 := hid (js_below hB32.out hT hjw.out hr.out hb'.out); clear hj hA hT hJ32 hA32 hB32 hX32)
            | fail)
          go_roundw
          case rel => exact ⟨i + 1, D2, l1 ++ [x2], st2, by omega, by go_num, by rw [hlen2.out]; have := hl24.out; omega, hone2.out, hok2'.out, hJ33.out, hA33.out, hB33.out⟩
          case measure => simp [intOf]; omega
      · have hi2 : ¬ (i : Int) < 5 := by omega
        have hsy := hid (fun W hJ hA => jSync_any j d r b 256 D1 st1 W hJ hA)
        go_wp2_with (first
          | (go_at_call 16; refine (hsy.out _ hJ4.out hA4.out).mono ?_; rintro e W5 ⟨rfl, hA, hT⟩; have hA5 := hid hA; have hJ5 := hid (hT.holds hJ4.out hjj.out.1 (fun e => hjj.out.2.1 (Option.some.inj e))); have hB5 := hid (dk_below8 hB4.out hT hr.out hb'.out); clear hA hT hA4 hB4 hJ4)
          | fail)
        clear hl0 hone0 hok0 hsy
        obtain ⟨K0, hK0⟩ : ∃ k, l1.length = k := ⟨_, rfl⟩
        have hsi0 := hid (show Since D1.sync K0 from Since.nil rfl)
        have hok0 := hid hok1.out.sync
        have hone0 := hone
        have hl0 := hid (show l1.length ≤ 5 + 0 from by have := hl24.out; omega)
        have hK0' := hid hK0
        clear hK0 hok1 hone hl24
        go_loopw [16] (fun ix wr => ∃ (i : Nat) (D : Dk) (l : Stood) (st : JSt), i ≤ 6 ∧ ix = .int .i64 (i : Int) ∧ l.length ≤ 5 + i ∧ OneEach l ∧ K0 ≤ l.length ∧ Since D K0 ∧ JOk D 256 l st ∧ Holds wr j 67 (jCells d st.prev (st.seq : Int) (st.used : Int)) ∧ DiskAt wr d r b 256 D ∧ Below w.heap.size w wr) (fun ix _ => 6 - (intOf ix).toNat)
        case atStart => exact ⟨0, _, _, _, Nat.zero_le _, rfl, hl0.out, hone0.out, Nat.le_of_eq hK0'.out.symm, hsi0.out, hok0.out, hJ5.out, hA5.out, hB5.out⟩
        case round =>
          obtain ⟨i, D1, l1, st1, hilim, rfl, hli, hone, hkl, hsi, hok, hj, hA, hB⟩ := hrel
          obtain ⟨W6, rfl⟩ : ∃ V, V = wr := ⟨_, rfl⟩
          have hJ6 := hid hj
          have hA6 := hid hA
          have hB6 := hid hB
          skip
          have hok1 := hid hok
          have hone := hid hone
          have hsi := hid hsi
          have hkl := hid hkl
          have hl24 := hid (show l1.length ≤ 5 + i from hli)
          clear hj hA hB hok hli
          have u2 := IntWalk.i64_in ((i : Int) + 1) (by omega)
          by_cases hkk : i < n2
          · have hi1 : (i : Int) < (n2 : Int) := by omega
            by_cases hi92 : i < 6
            · have hi2 : (i : Int) < 6 := by omega
              have hi0 : (0 : Int) ≤ (i : Int) := by omega
              obtain ⟨p, R, hpA, hpB, hR, -⟩ := hX2.out.get (k := i) hkk
              have hcl := hid (fun V (hV : Below w.heap.size w V) => show ∀ j v, (recV R)[j]? = some v → V.cell? ((p.add (i * 2)).add j) = some v from by
                obtain ⟨p', R', h1, h2, h3, h4⟩ := (hX2.out.below hV).get (k := i) hkk
                rw [hpA] at h1
                obtain rfl := Option.some.inj h1
                rw [hR] at h3
                obtain rfl := Option.some.inj h3
                exact h4)
              subst hpA
              clear hR hpB
              obtain ⟨g, hg⟩ : ∃ g, W6.heap.size = g := ⟨_, rfl⟩
              have hg' := hid hg
              have hgl := hid (show d < g ∧ r < g ∧ b < g ∧ j < g ∧ w.heap.size ≤ g from by
                have h1 := hA6.out.lt
                have h2 := hJ6.out.lt
                have h3 := hB6.out.size
                omega)
              clear hg
              have em : min (R.data.size : Int) 20 = ((min R.data.size 20 : Nat) : Int) := by omega
              have em2 : ((min R.data.size 20 : Nat) : Int) ≤ (R.data.size : Int) := by omega
              have em3 : (0 : Int) ≤ ((min R.data.size 20 : Nat) : Int) := by omega
              obtain ⟨m20, hm20⟩ : ∃ m, min R.data.size 20 = m := ⟨_, rfl⟩
              rw [hm20] at em em2 em3
              have hm20' := hid hm20
              clear hm20
              have hf0 := hok1.out.facts
              have hused := hid (one_used hok1.out hone.out)
              cases hsm : sealMay (st1.seq : Int) (cut20 R) with
              | false =>
                have hap := hid (fun W hJ hA => append_bad j d r b 256 D1 st1 hf0.1 (cut20 R) hsm W hJ hA)
                clear hf0 hsm
                go_wp2_with (first
                  | ((with_reducible refine at_slot (some 86) ?_); refine wpList_plain rfl fun K hK => ?_; refine wp_load_any 25 (.tmp 85) rfl _ rfl (recV R) _ (by exact hcl.out _ hB6.out) Try.underlying25 rfl (by exact recSizeL R) ?_; refine hK _ _ ?_; clear hK K)
                  | ((with_reducible refine at_slot (some 17) ?_); refine wpList_run rfl (.pointer (some ⟨g, 0, none⟩)) (W6.alloc (.cells (recV rec0).toArray 25)) (by rw [← hg'.out]; kernel_rfl) ?_)
                  | ((with_reducible refine at_slot none ?_); refine wpList_store_mid rfl 25 (.tmp 17) (.tmp 86) rfl g 0 (recV R).toArray rfl rfl (by exact rec_there hg'.out R) (by exact recSize R) (by exact recOne R) ?_; generalize hWa : World.setCells _ _ _ _ = W31; have hh := rec_new hg'.out hWa; have hX31 := hid hh.1; have hb31 := hid hh.2; have x0 := hX31.out.cK 0 _ rfl; have x1 := hX31.out.cK 1 _ rfl; have xf := hX31.out.frozen 1; obtain ⟨W32, hW32⟩ : ∃ V, W31.setCell ⟨g, 1, none⟩ (.string (R.data.extract 0 m20)) = V := ⟨_, rfl⟩; have hb32 := hid (show Below W6.heap.size W6 W32 from by rw [← hW32]; exact hb31.out.setCell (p := ⟨g, 1, none⟩) (Nat.le_of_eq hg'.out) _); have hX32 := hid (show Holds W32 g 25 (recV (cut20 R)) from by rw [← hW32, ← cut20_set R, hm20'.out]; exact hX31.out.set 1 _); have hJ32 := hid (hJ6.out.below hb32.out hJ6.out.lt); have hA32 := hid (hA6.out.on hb32.out); have hB32 := hid (bup hb32.out hB6.out); have hW32' := hid hW32; clear hW32 hWa hh hb31 hb32 hJ6 hA6 hB6 )
                  | ((with_reducible refine at_slot (some 96) ?_); rw [hW32'.out]; clear x0 x1 xf; refine wpList_load_mid rfl 25 (.tmp 17) rfl g 0 rfl (recV (cut20 R)) _ (by exact h_all hX32.out) Try.underlying25 rfl (by exact recSizeL _) ?_)
                  | (go_at_call 12; refine (errNum_any _ _).mono ?_; rintro e w' ⟨rfl, rfl⟩)
                  | (go_at_call 17; refine (hap.out _ hJ32.out hA32.out).mono ?_; rintro e W33 ⟨rfl, hb⟩; have hJ33 := hid (hJ32.out.below hb hJ32.out.lt); have hA33 := hid (hA32.out.on hb); have hB33 := hid (bup hb hB32.out); clear hb hJ32 hA32 hB32)
                  | fail)
                go_roundw
                case rel => exact ⟨i + 1, D1, l1, st1, by omega, by go_num, by have := hl24.out; omega, hone.out, hkl.out, hsi.out, hok1.out, hJ33.out, hA33.out, hB33.out⟩
                case measure => simp [intOf]; omega
              | true =>
                have hfit : st1.used + wholes (41 + (cut20 R).data.size) ≤ 256 := by rw [cut20_w, hused.out]; have := hl24.out; omega
                have hap := hid (fun W hJ hA => append_ok j d r b 256 D1 st1 hf0.1 (cut20 R) hsm hfit W hJ hA hjj.out)
                have hok2 := hok1.out.append (cut20 R) hsm hfit
                have hsi2 := since_more R hok1.out hone.out hsi.out hkl.out (by have := hl24.out; omega)
                obtain ⟨D2, hD2⟩ : ∃ x, writeS D1 st1.used (recBytes st1.prev st1.seq (cut20 R).kind.toNat (cut20 R).data) (wholes (41 + (cut20 R).data.size)) = x := ⟨_, rfl⟩
                obtain ⟨st2, hst2⟩ : ∃ x, st1.pass (cut20 R) (recBytes st1.prev st1.seq (cut20 R).kind.toNat (cut20 R).data) = x := ⟨_, rfl⟩
                have hxz : (asRB st1 (cut20 R) hsm).1.2.size = 64 := by show (recBytes st1.prev st1.seq (cut20 R).kind.toNat (cut20 R).data).size = 64; rw [recBytes_size, cut20_w]
                obtain ⟨x2, hx2⟩ : ∃ x, asRB st1 (cut20 R) hsm = x := ⟨_, rfl⟩
                have hx2' := hid (show x2.1.1 = cut20 R from by rw [← hx2]; rfl)
                rw [hx2] at hxz
                rw [hD2, hst2] at hap
                rw [hD2] at hsi2
                have hsi2' := hid hsi2
                clear hsi2
                rw [hD2, hst2, hx2] at hok2
                have hok2' := hid hok2
                have hlen2 := hid (show (l1 ++ [x2]).length = l1.length + 1 from by rw [List.length_append]; rfl)
                have hone2 := hid (one_more hone.out hxz)
                clear hok2 hD2 hst2 hx2 hf0 hfit hsm hxz
                go_wp2_with (first
                  | ((with_reducible refine at_slot (some 86) ?_); refine wpList_plain rfl fun K hK => ?_; refine wp_load_any 25 (.tmp 85) rfl _ rfl (recV R) _ (by exact hcl.out _ hB6.out) Try.underlying25 rfl (by exact recSizeL R) ?_; refine hK _ _ ?_; clear hK K)
                  | ((with_reducible refine at_slot (some 17) ?_); refine wpList_run rfl (.pointer (some ⟨g, 0, none⟩)) (W6.alloc (.cells (recV rec0).toArray 25)) (by rw [← hg'.out]; kernel_rfl) ?_)
                  | ((with_reducible refine at_slot none ?_); refine wpList_store_mid rfl 25 (.tmp 17) (.tmp 86) rfl g 0 (recV R).toArray rfl rfl (by exact rec_there hg'.out R) (by exact recSize R) (by exact recOne R) ?_; generalize hWa : World.setCells _ _ _ _ = W31; have hh := rec_new hg'.out hWa; have hX31 := hid hh.1; have hb31 := hid hh.2; have x0 := hX31.out.cK 0 _ rfl; have x1 := hX31.out.cK 1 _ rfl; have xf := hX31.out.frozen 1; obtain ⟨W32, hW32⟩ : ∃ V, W31.setCell ⟨g, 1, none⟩ (.string (R.data.extract 0 m20)) = V := ⟨_, rfl⟩; have hb32 := hid (show Below W6.heap.size W6 W32 from by rw [← hW32]; exact hb31.out.setCell (p := ⟨g, 1, none⟩) (Nat.le_of_eq hg'.out) _); have hX32 := hid (show Holds W32 g 25 (recV (cut20 R)) from by rw [← hW32, ← cut20_set R, hm20'.out]; exact hX31.out.set 1 _); have hJ32 := hid (hJ6.out.below hb32.out hJ6.out.lt); have hA32 := hid (hA6.out.on hb32.out); have hB32 := hid (bup hb32.out hB6.out); have hW32' := hid hW32; clear hW32 hWa hh hb31 hb32 hJ6 hA6 hB6 )
                  | ((with_reducible refine at_slot (some 96) ?_); rw [hW32'.out]; clear x0 x1 xf; refine wpList_load_mid rfl 25 (.tmp 17) rfl g 0 rfl (recV (cut20 R)) _ (by exact h_all hX32.out) Try.underlying25 rfl (by exact recSizeL _) ?_)
                  | (go_at_call 12; refine (errNum_any _ _).mono ?_; rintro e w' ⟨rfl, rfl⟩)
                  | (go_at_call 17; refine (hap.out _ hJ32.out hA32.out).mono ?_; rintro e W33 ⟨rfl, hj, hA, hT⟩; have hX33 := hid (hT.holds hX32.out (fun h => by have := hgl.out; rcases h with e | e | e <;> omega)); have hJ33 := hid (show Holds W33 j 67 (jCells d _ _ _) from hj); have hA33 := hid hA; have hB33 := hid (js_below hB32.out hT hjw.out hr.out hb'.out); clear hj hA hT hJ32 hA32 hB32 hX32)
                  | fail)
                go_roundw
                case rel => exact ⟨i + 1, D2, l1 ++ [x2], st2, by omega, by go_num, by rw [hlen2.out]; have := hl24.out; omega, hone2.out, (by rw [hlen2.out]; exact Nat.le_succ_of_le hkl.out), hsi2'.out, hok2'.out, hJ33.out, hA33.out, hB33.out⟩
                case measure => simp [intOf]; omega
            · have hi2 : ¬ (i : Int) < 6 := by omega
              obtain ⟨m, st9, hm1, hm2, hst9, hn9⟩ := crash_stands keep hok1.out hone.out hsi.out hkl.out
              have hcr := hid (fun W hA => dkCrash_any keep d r b 256 D1 W hA)
              have hop := hid (fun W hA => open_st d r b 256 (D1.crash keep) (l1.take m) st9 hst9 hn9 W hA)
              have hok9 := hid (JOk.wiped (hok1.out.fine.crash keep) hst9)
              have hone9 := hid (show OneEach (l1.take m) from fun x hx => hone.out x (List.mem_of_mem_take hx))
              have hl9 := hid (show (l1.take m).length ≤ 11 + 0 from by rw [List.length_take]; have := hl24.out; omega)
              obtain ⟨l9, hl9e⟩ : ∃ x, l1.take m = x := ⟨_, rfl⟩
              rw [hl9e] at hop hok9 hone9 hl9
              clear hst9 hn9 hm1 hm2 hl9e hok1 hone hsi hkl hl24
              go_wp2_with (first
                | (go_at_call 18; refine (hcr.out _ hA6.out).mono ?_; rintro e W13 ⟨rfl, hA, hT⟩; have hA13 := hid hA; have hB13 := hid (dk_below8 hB6.out hT hr.out hb'.out); clear hA hT hA6 hB6 hJ6)
                | (go_at_call 15; refine (hop.out _ hA13.out).mono ?_; rintro e W14 ⟨j2, A9, c9, rfl, hj2, hrow9, hA, hT, hjl⟩; have hJ14 := hid hj2; have hA14 := hid hA; have hB14 := hid (dk_below8 hB13.out hT hr.out hb'.out); have hR14 := hid (rows_base hrow9 hB13.out.size); have hjj2 := hid (show j2 ≠ r ∧ j2 ≠ b ∧ j2 ≠ d from by have := hA13.out.lt; omega); have hjw2 := hid (show w.heap.size ≤ j2 from Nat.le_trans hB13.out.size hjl); clear hj2 hrow9 hA hT hjl hA13 hB13)
                | (go_at_call 12; refine (errNum_any _ _).mono ?_; rintro e w' ⟨rfl, rfl⟩)
                | fail)
              clear hl0 hone0 hok0 hsi0
              have hl0 := hl9
              have hone0 := hone9
              have hok0 := hok9
              go_loopw [19, 21] (fun av ix wr => ∃ (i : Nat) (D : Dk) (l : Stood) (st : JSt) (A : Option Addr) (c : Nat), i ≤ 6 ∧ ix = .int .i64 (i : Int) ∧ av = .slice A l.length c ∧ l.length ≤ 11 + i ∧ OneEach l ∧ JOk D 256 l st ∧ Holds wr j2 67 (jCells d st.prev (st.seq : Int) (st.used : Int)) ∧ DiskAt wr d r b 256 D ∧ wr.ownsRow w.heap.size 25 2 (.slice A l.length c) l.length (recsV l) ∧ Below w.heap.size w wr) (fun _ ix _ => 6 - (intOf ix).toNat)
              case atStart => exact ⟨0, _, _, _, _, _, Nat.zero_le _, rfl, rfl, hl0.out, hone0.out, hok0.out, hJ14.out, hA14.out, hR14.out, hB14.out⟩
              case round =>
                obtain ⟨i, D1, l1, st1, A7, c7, hilim, rfl, rfl, hli, hone, hok, hj, hA, hrow, hB⟩ := hrel
                obtain ⟨W7, rfl⟩ : ∃ V, V = wr := ⟨_, rfl⟩
                have hJ7 := hid hj
                have hA7 := hid hA
                have hB7 := hid hB
                have hR7 := hid hrow
                have hok1 := hid hok
                have hone := hid hone
                skip
                have hl24 := hid (show l1.length ≤ 11 + i from hli)
                clear hj hA hB hok hli
                have u2 := IntWalk.i64_in ((i : Int) + 1) (by omega)
                by_cases hkk : i < n3
                · have hi1 : (i : Int) < (n3 : Int) := by omega
                  by_cases hi92 : i < 6
                  · have hi2 : (i : Int) < 6 := by omega
                    have hi0 : (0 : Int) ≤ (i : Int) := by omega
                    obtain ⟨p, R, hpA, hpB, hR, -⟩ := hX3.out.get (k := i) hkk
                    have hcl := hid (fun V (hV : Below w.heap.size w V) => show ∀ j v, (recV R)[j]? = some v → V.cell? ((p.add (i * 2)).add j) = some v from by
                      obtain ⟨p', R', h1, h2, h3, h4⟩ := (hX3.out.below hV).get (k := i) hkk
                      rw [hpA] at h1
                      obtain rfl := Option.some.inj h1
                      rw [hR] at h3
                      obtain rfl := Option.some.inj h3
                      exact h4)
                    subst hpA
                    clear hR hpB
                    obtain ⟨g, hg⟩ : ∃ g, W7.heap.size = g := ⟨_, rfl⟩
                    have hg' := hid hg
                    have hgl := hid (show d < g ∧ r < g ∧ b < g ∧ j2 < g ∧ w.heap.size ≤ g from by
                      have h1 := hA7.out.lt
                      have h2 := hJ7.out.lt
                      have h3 := hB7.out.size
                      omega)
                    clear hg
                    have em : min (R.data.size : Int) 20 = ((min R.data.size 20 : Nat) : Int) := by omega
                    have em2 : ((min R.data.size 20 : Nat) : Int) ≤ (R.data.size : Int) := by omega
                    have em3 : (0 : Int) ≤ ((min R.data.size 20 : Nat) : Int) := by omega
                    obtain ⟨m20, hm20⟩ : ∃ m, min R.data.size 20 = m := ⟨_, rfl⟩
                    rw [hm20] at em em2 em3
                    have hm20' := hid hm20
                    clear hm20
                    have hf0 := hok1.out.facts
                    have hused := hid (one_used hok1.out hone.out)
                    cases hsm : sealMay (st1.seq : Int) (cut20 R) with
                    | false =>
                      have hap := hid (fun W hJ hA => append_bad j2 d r b 256 D1 st1 hf0.1 (cut20 R) hsm W hJ hA)
                      clear hf0 hsm
                      go_wp2_with (first
                        | ((with_reducible refine at_slot (some 127) ?_); refine wpList_plain rfl fun K hK => ?_; refine wp_load_any 25 (.tmp 126) rfl _ rfl (recV R) _ (by exact hcl.out _ hB7.out) Try.underlying25 rfl (by exact recSizeL R) ?_; refine hK _ _ ?_; clear hK K)
                        | ((with_reducible refine at_slot (some 22) ?_); refine wpList_run rfl (.pointer (some ⟨g, 0, none⟩)) (W7.alloc (.cells (recV rec0).toArray 25)) (by rw [← hg'.out]; kernel_rfl) ?_)
                        | ((with_reducible refine at_slot none ?_); refine wpList_store_mid rfl 25 (.tmp 22) (.tmp 127) rfl g 0 (recV R).toArray rfl rfl (by exact rec_there hg'.out R) (by exact recSize R) (by exact recOne R) ?_; generalize hWa : World.setCells _ _ _ _ = W31; have hh := rec_new hg'.out hWa; have hX31 := hid hh.1; have hb31 := hid hh.2; have x0 := hX31.out.cK 0 _ rfl; have x1 := hX31.out.cK 1 _ rfl; have xf := hX31.out.frozen 1; obtain ⟨W32, hW32⟩ : ∃ V, W31.setCell ⟨g, 1, none⟩ (.string (R.data.extract 0 m20)) = V := ⟨_, rfl⟩; have hb32 := hid (show Below W7.heap.size W7 W32 from by rw [← hW32]; exact hb31.out.setCell (p := ⟨g, 1, none⟩) (Nat.le_of_eq hg'.out) _); have hX32 := hid (show Holds W32 g 25 (recV (cut20 R)) from by rw [← hW32, ← cut20_set R, hm20'.out]; exact hX31.out.set 1 _); have hJ32 := hid (hJ7.out.below hb32.out hJ7.out.lt); have hA32 := hid (hA7.out.on hb32.out); have hB32 := hid (bup hb32.out hB7.out); have hR32 := hid (rows_on hR7.out hb32.out); clear hR7; have hW32' := hid hW32; clear hW32 hWa hh hb31 hb32 hJ7 hA7 hB7 )
                        | ((with_reducible refine at_slot (some 137) ?_); rw [hW32'.out]; clear x0 x1 xf; refine wpList_load_mid rfl 25 (.tmp 22) rfl g 0 rfl (recV (cut20 R)) _ (by exact h_all hX32.out) Try.underlying25 rfl (by exact recSizeL _) ?_)
                        | (go_at_call 12; refine (errNum_any _ _).mono ?_; rintro e w' ⟨rfl, rfl⟩)
                        | (go_at_call 17; refine (hap.out _ hJ32.out hA32.out).mono ?_; rintro e W33 ⟨rfl, hb⟩; have hJ33 := hid (hJ32.out.below hb hJ32.out.lt); have hA33 := hid (hA32.out.on hb); have hB33 := hid (bup hb hB32.out); have hR33 := hid (rows_on hR32.out hb); clear hR32; clear hb hJ32 hA32 hB32)
                        | ((with_reducible refine at_slot (some 143) ?_); refine wpList_load_mid rfl 25 (.tmp 22) rfl g 0 rfl (recV (cut20 R)) _ (by exact h_all hX33.out) Try.underlying25 rfl (by exact recSizeL _) ?_)
                        | ((with_reducible refine at_slot (some 144) ?_); refine wpList_pushRec rfl rfl (.tmp 143) (.tmp 142) (.tmp 144) rfl rfl w.heap.size A7 l1.length c7 _ (cut20 R) rfl rfl rfl (by have := hl24.out; omega) hR33.out (by exact hB33.out.size) ?_; intro A9 c9 W34 hrow9 hg9; have hR34 := hid hrow9; have hJ34 := hid (hJ33.out.grown hg9 (fun e => recs_ne hR33.out e.symm hJ33.out (by decide) rfl)); have hA34 := hid (hA33.out.grown hg9 (fun e => (recs_dk hR33.out e.symm hA33.out).1 rfl) (fun e => (recs_dk hR33.out e.symm hA33.out).2.1 rfl) (fun e => (recs_dk hR33.out e.symm hA33.out).2.2 rfl)); have hB34 := hid (hB33.out.grown hg9 hB33.out.size (fun k e => (hR33.out.lt k e).1)); clear hrow9 hg9 hJ33 hA33 hB33 hR33)
                        | fail)
                      go_roundw
                      case rel => exact ⟨i + 1, D1, l1, st1, A7, c7, by omega, by go_num, rfl, by have := hl24.out; omega, hone.out, hok1.out, hJ33.out, hA33.out, hR33.out, hB33.out⟩
                      case measure => simp [intOf]; omega
                    | true =>
                      have hfit : st1.used + wholes (41 + (cut20 R).data.size) ≤ 256 := by rw [cut20_w, hused.out]; have := hl24.out; omega
                      have hap := hid (fun W hJ hA => append_ok j2 d r b 256 D1 st1 hf0.1 (cut20 R) hsm hfit W hJ hA hjj2.out)
                      have hok2 := hok1.out.append (cut20 R) hsm hfit
                      skip
                      obtain ⟨D2, hD2⟩ : ∃ x, writeS D1 st1.used (recBytes st1.prev st1.seq (cut20 R).kind.toNat (cut20 R).data) (wholes (41 + (cut20 R).data.size)) = x := ⟨_, rfl⟩
                      obtain ⟨st2, hst2⟩ : ∃ x, st1.pass (cut20 R) (recBytes st1.prev st1.seq (cut20 R).kind.toNat (cut20 R).data) = x := ⟨_, rfl⟩
                      have hxz : (asRB st1 (cut20 R) hsm).1.2.size = 64 := by show (recBytes st1.prev st1.seq (cut20 R).kind.toNat (cut20 R).data).size = 64; rw [recBytes_size, cut20_w]
                      obtain ⟨x2, hx2⟩ : ∃ x, asRB st1 (cut20 R) hsm = x := ⟨_, rfl⟩
                      have hx2' := hid (show x2.1.1 = cut20 R from by rw [← hx2]; rfl)
                      rw [hx2] at hxz
                      rw [hD2, hst2] at hap
                      skip
                      rw [hD2, hst2, hx2] at hok2
                      have hok2' := hid hok2
                      have hlen2 := hid (show (l1 ++ [x2]).length = l1.length + 1 from by rw [List.length_append]; rfl)
                      have hone2 := hid (one_more hone.out hxz)
                      clear hok2 hD2 hst2 hx2 hf0 hfit hsm hxz
                      go_wp2_with (first
                        | ((with_reducible refine at_slot (some 127) ?_); refine wpList_plain rfl fun K hK => ?_; refine wp_load_any 25 (.tmp 126) rfl _ rfl (recV R) _ (by exact hcl.out _ hB7.out) Try.underlying25 rfl (by exact recSizeL R) ?_; refine hK _ _ ?_; clear hK K)
                        | ((with_reducible refine at_slot (some 22) ?_); refine wpList_run rfl (.pointer (some ⟨g, 0, none⟩)) (W7.alloc (.cells (recV rec0).toArray 25)) (by rw [← hg'.out]; kernel_rfl) ?_)
                        | ((with_reducible refine at_slot none ?_); refine wpList_store_mid rfl 25 (.tmp 22) (.tmp 127) rfl g 0 (recV R).toArray rfl rfl (by exact rec_there hg'.out R) (by exact recSize R) (by exact recOne R) ?_; generalize hWa : World.setCells _ _ _ _ = W31; have hh := rec_new hg'.out hWa; have hX31 := hid hh.1; have hb31 := hid hh.2; have x0 := hX31.out.cK 0 _ rfl; have x1 := hX31.out.cK 1 _ rfl; have xf := hX31.out.frozen 1; obtain ⟨W32, hW32⟩ : ∃ V, W31.setCell ⟨g, 1, none⟩ (.string (R.data.extract 0 m20)) = V := ⟨_, rfl⟩; have hb32 := hid (show Below W7.heap.size W7 W32 from by rw [← hW32]; exact hb31.out.setCell (p := ⟨g, 1, none⟩) (Nat.le_of_eq hg'.out) _); have hX32 := hid (show Holds W32 g 25 (recV (cut20 R)) from by rw [← hW32, ← cut20_set R, hm20'.out]; exact hX31.out.set 1 _); have hJ32 := hid (hJ7.out.below hb32.out hJ7.out.lt); have hA32 := hid (hA7.out.on hb32.out); have hB32 := hid (bup hb32.out hB7.out); have hR32 := hid (rows_on hR7.out hb32.out); clear hR7; have hW32' := hid hW32; clear hW32 hWa hh hb31 hb32 hJ7 hA7 hB7 )
                        | ((with_reducible refine at_slot (some 137) ?_); rw [hW32'.out]; clear x0 x1 xf; refine wpList_load_mid rfl 25 (.tmp 22) rfl g 0 rfl (recV (cut20 R)) _ (by exact h_all hX32.out) Try.underlying25 rfl (by exact recSizeL _) ?_)
                        | (go_at_call 12; refine (errNum_any _ _).mono ?_; rintro e w' ⟨rfl, rfl⟩)
                        | (go_at_call 17; refine (hap.out _ hJ32.out hA32.out).mono ?_; rintro e W33 ⟨rfl, hj, hA, hT⟩; have hX33 := hid (hT.holds hX32.out (fun h => by have := hgl.out; rcases h with e | e | e <;> omega)); have hJ33 := hid (show Holds W33 j2 67 (jCells d _ _ _) from hj); have hA33 := hid hA; have hB33 := hid (js_below hB32.out hT hjw2.out hr.out hb'.out); have hR33 := hid (recs_turnedS hR32.out hA32.out hJ32.out hT); clear hR32; clear hj hA hT hJ32 hA32 hB32 hX32)
                        | ((with_reducible refine at_slot (some 143) ?_); refine wpList_load_mid rfl 25 (.tmp 22) rfl g 0 rfl (recV (cut20 R)) _ (by exact h_all hX33.out) Try.underlying25 rfl (by exact recSizeL _) ?_)
                        | ((with_reducible refine at_slot (some 144) ?_); refine wpList_pushRec rfl rfl (.tmp 143) (.tmp 142) (.tmp 144) rfl rfl w.heap.size A7 l1.length c7 _ (cut20 R) rfl rfl rfl (by have := hl24.out; omega) hR33.out (by exact hB33.out.size) ?_; intro A9 c9 W34 hrow9 hg9; have hR34 := hid hrow9; have hJ34 := hid (hJ33.out.grown hg9 (fun e => recs_ne hR33.out e.symm hJ33.out (by decide) rfl)); have hA34 := hid (hA33.out.grown hg9 (fun e => (recs_dk hR33.out e.symm hA33.out).1 rfl) (fun e => (recs_dk hR33.out e.symm hA33.out).2.1 rfl) (fun e => (recs_dk hR33.out e.symm hA33.out).2.2 rfl)); have hB34 := hid (hB33.out.grown hg9 hB33.out.size (fun k e => (hR33.out.lt k e).1)); clear hrow9 hg9 hJ33 hA33 hB33 hR33)
                        | fail)
                      go_roundw
                      case rel => exact ⟨i + 1, D2, l1 ++ [x2], st2, A9, c9, by omega, by go_num, by rw [hlen2.out], by rw [hlen2.out]; have := hl24.out; omega, hone2.out, hok2'.out, hJ34.out, hA34.out, by rw [hlen2.out, recsV_snoc, hx2'.out]; exact hR34.out, hB34.out⟩
                      case measure => simp [intOf]; omega
                  · have hi2 : ¬ (i : Int) < 6 := by omega
                    have hop3 := hid (fun W hA => open_ok d r b 256 D1.sync l1 st1 hok1.out.sync W hA)
                    have hsy3 := hid (fun W hJ hA => jSync_any j2 d r b 256 D1 st1 W hJ hA)
                    go_wp2_with (first
                      | (go_at_call 16; refine (hsy3.out _ hJ7.out hA7.out).mono ?_; rintro e W20 ⟨rfl, hA, hT⟩; have hA20 := hid hA; have hB20 := hid (dk_below8 hB7.out hT hr.out hb'.out); have hR20 := hid (recs_turned hR7.out hA7.out hT); clear hA hT hA7 hB7 hR7)
                      | (go_at_call 15; refine (hop3.out _ hA20.out).mono ?_; rintro e W21 ⟨j3, A9, c9, rfl, hj3, hrow9, hA, hk9, hT, hjl⟩; have hB21 := hid (dk_below8 hB20.out hT hr.out hb'.out); have hR21 := hid (recs_turned hR20.out hA20.out hT); have hS21 := hid (RecsA.of_row hrow9); clear hj3 hrow9 hA hk9 hT hjl hA20 hB20 hR20)
                      | (go_at_call 12; refine (errNum_any _ _).mono ?_; rintro e w' ⟨rfl, rfl⟩)
                      | (go_at_call 19; refine (sameRecs_any A9 A7 l1.length c9 c7 (l1.map (·.1.1)) _ hS21.out (RecsA.of_row hR21.out) (by have := hl24.out; omega)).mono ?_; rintro e W22 ⟨rfl, hb⟩; have hB22 := hid (bup hb hB21.out); clear hb hB21 hR21 hS21)
                      | fail)
                    go_ret
                    exact ⟨rfl, hB22.out⟩
                · have hi1 : ¬ (i : Int) < (n3 : Int) := by omega
                  have hop3 := hid (fun W hA => open_ok d r b 256 D1.sync l1 st1 hok1.out.sync W hA)
                  have hsy3 := hid (fun W hJ hA => jSync_any j2 d r b 256 D1 st1 W hJ hA)
                  go_wp2_with (first
                    | (go_at_call 16; refine (hsy3.out _ hJ7.out hA7.out).mono ?_; rintro e W20 ⟨rfl, hA, hT⟩; have hA20 := hid hA; have hB20 := hid (dk_below8 hB7.out hT hr.out hb'.out); have hR20 := hid (recs_turned hR7.out hA7.out hT); clear hA hT hA7 hB7 hR7)
                    | (go_at_call 15; refine (hop3.out _ hA20.out).mono ?_; rintro e W21 ⟨j3, A9, c9, rfl, hj3, hrow9, hA, hk9, hT, hjl⟩; have hB21 := hid (dk_below8 hB20.out hT hr.out hb'.out); have hR21 := hid (recs_turned hR20.out hA20.out hT); have hS21 := hid (RecsA.of_row hrow9); clear hj3 hrow9 hA hk9 hT hjl hA20 hB20 hR20)
                    | (go_at_call 12; refine (errNum_any _ _).mono ?_; rintro e w' ⟨rfl, rfl⟩)
                    | (go_at_call 19; refine (sameRecs_any A9 A7 l1.length c9 c7 (l1.map (·.1.1)) _ hS21.out (RecsA.of_row hR21.out) (by have := hl24.out; omega)).mono ?_; rintro e W22 ⟨rfl, hb⟩; have hB22 := hid (bup hb hB21.out); clear hb hB21 hR21 hS21)
                    | fail)
                  go_ret
                  exact ⟨rfl, hB22.out⟩
          · have hi1 : ¬ (i : Int) < (n2 : Int) := by omega
            obtain ⟨m, st9, hm1, hm2, hst9, hn9⟩ := crash_stands keep hok1.out hone.out hsi.out hkl.out
            have hcr := hid (fun W hA => dkCrash_any keep d r b 256 D1 W hA)
            have hop := hid (fun W hA => open_st d r b 256 (D1.crash keep) (l1.take m) st9 hst9 hn9 W hA)
            have hok9 := hid (JOk.wiped (hok1.out.fine.crash keep) hst9)
            have hone9 := hid (show OneEach (l1.take m) from fun x hx => hone.out x (List.mem_of_mem_take hx))
            have hl9 := hid (show (l1.take m).length ≤ 11 + 0 from by rw [List.length_take]; have := hl24.out; omega)
            obtain ⟨l9, hl9e⟩ : ∃ x, l1.take m = x := ⟨_, rfl⟩
            rw [hl9e] at hop hok9 hone9 hl9
            clear hst9 hn9 hm1 hm2 hl9e hok1 hone hsi hkl hl24
            go_wp2_with (first
              | (go_at_call 18; refine (hcr.out _ hA6.out).mono ?_; rintro e W13 ⟨rfl, hA, hT⟩; have hA13 := hid hA; have hB13 := hid (dk_below8 hB6.out hT hr.out hb'.out); clear hA hT hA6 hB6 hJ6)
              | (go_at_call 15; refine (hop.out _ hA13.out).mono ?_; rintro e W14 ⟨j2, A9, c9, rfl, hj2, hrow9, hA, hT, hjl⟩; have hJ14 := hid hj2; have hA14 := hid hA; have hB14 := hid (dk_below8 hB13.out hT hr.out hb'.out); have hR14 := hid (rows_base hrow9 hB13.out.size); have hjj2 := hid (show j2 ≠ r ∧ j2 ≠ b ∧ j2 ≠ d from by have := hA13.out.lt; omega); have hjw2 := hid (show w.heap.size ≤ j2 from Nat.le_trans hB13.out.size hjl); clear hj2 hrow9 hA hT hjl hA13 hB13)
              | (go_at_call 12; refine (errNum_any _ _).mono ?_; rintro e w' ⟨rfl, rfl⟩)
              | fail)
            clear hl0 hone0 hok0 hsi0
            have hl0 := hl9
            have hone0 := hone9
            have hok0 := hok9
            go_loopw [19, 21] (fun av ix wr => ∃ (i : Nat) (D : Dk) (l : Stood) (st : JSt) (A : Option Addr) (c : Nat), i ≤ 6 ∧ ix = .int .i64 (i : Int) ∧ av = .slice A l.length c ∧ l.length ≤ 11 + i ∧ OneEach l ∧ JOk D 256 l st ∧ Holds wr j2 67 (jCells d st.prev (st.seq : Int) (st.used : Int)) ∧ DiskAt wr d r b 256 D ∧ wr.ownsRow w.heap.size 25 2 (.slice A l.length c) l.length (recsV l) ∧ Below w.heap.size w wr) (fun _ ix _ => 6 - (intOf ix).toNat)
            case atStart => exact ⟨0, _, _, _, _, _, Nat.zero_le _, rfl, rfl, hl0.out, hone0.out, hok0.out, hJ14.out, hA14.out, hR14.out, hB14.out⟩
            case round =>
              obtain ⟨i, D1, l1, st1, A7, c7, hilim, rfl, rfl, hli, hone, hok, hj, hA, hrow, hB⟩ := hrel
              obtain ⟨W7, rfl⟩ : ∃ V, V = wr := ⟨_, rfl⟩
              have hJ7 := hid hj
              have hA7 := hid hA
              have hB7 := hid hB
              have hR7 := hid hrow
              have hok1 := hid hok
              have hone := hid hone
              skip
              have hl24 := hid (show l1.length ≤ 11 + i from hli)
              clear hj hA hB hok hli
              have u2 := IntWalk.i64_in ((i : Int) + 1) (by omega)
              by_cases hkk : i < n3
              · have hi1 : (i : Int) < (n3 : Int) := by omega
                by_cases hi92 : i < 6
                · have hi2 : (i : Int) < 6 := by omega
                  have hi0 : (0 : Int) ≤ (i : Int) := by omega
                  obtain ⟨p, R, hpA, hpB, hR, -⟩ := hX3.out.get (k := i) hkk
                  have hcl := hid (fun V (hV : Below w.heap.size w V) => show ∀ j v, (recV R)[j]? = some v → V.cell? ((p.add (i * 2)).add j) = some v from by
                    obtain ⟨p', R', h1, h2, h3, h4⟩ := (hX3.out.below hV).get (k := i) hkk
                    rw [hpA] at h1
                    obtain rfl := Option.some.inj h1
                    rw [hR] at h3
                    obtain rfl := Option.some.inj h3
                    exact h4)
                  subst hpA
                  clear hR hpB
                  obtain ⟨g, hg⟩ : ∃ g, W7.heap.size = g := ⟨_, rfl⟩
                  have hg' := hid hg
                  have hgl := hid (show d < g ∧ r < g ∧ b < g ∧ j2 < g ∧ w.heap.size ≤ g from by
                    have h1 := hA7.out.lt
                    have h2 := hJ7.out.lt
                    have h3 := hB7.out.size
                    omega)
                  clear hg
                  have em : min (R.data.size : Int) 20 = ((min R.data.size 20 : Nat) : Int) := by omega
                  have em2 : ((min R.data.size 20 : Nat) : Int) ≤ (R.data.size : Int) := by omega
                  have em3 : (0 : Int) ≤ ((min R.data.size 20 : Nat) : Int) := by omega
                  obtain ⟨m20, hm20⟩ : ∃ m, min R.data.size 20 = m := ⟨_, rfl⟩
                  rw [hm20] at em em2 em3
                  have hm20' := hid hm20
                  clear hm20
                  have hf0 := hok1.out.facts
                  have hused := hid (one_used hok1.out hone.out)
                  cases hsm : sealMay (st1.seq : Int) (cut20 R) with
                  | false =>
                    have hap := hid (fun W hJ hA => append_bad j2 d r b 256 D1 st1 hf0.1 (cut20 R) hsm W hJ hA)
                    clear hf0 hsm
                    go_wp2_with (first
                      | ((with_reducible refine at_slot (some 127) ?_); refine wpList_plain rfl fun K hK => ?_; refine wp_load_any 25 (.tmp 126) rfl _ rfl (recV R) _ (by exact hcl.out _ hB7.out) Try.underlying25 rfl (by exact recSizeL R) ?_; refine hK _ _ ?_; clear hK K)
                      | ((with_reducible refine at_slot (some 22) ?_); refine wpList_run rfl (.pointer (some ⟨g, 0, none⟩)) (W7.alloc (.cells (recV rec0).toArray 25)) (by rw [← hg'.out]; kernel_rfl) ?_)
                      | ((with_reducible refine at_slot none ?_); refine wpList_store_mid rfl 25 (.tmp 22) (.tmp 127) rfl g 0 (recV R).toArray rfl rfl (by exact rec_there hg'.out R) (by exact recSize R) (by exact recOne R) ?_; generalize hWa : World.setCells _ _ _ _ = W31; have hh := rec_new hg'.out hWa; have hX31 := hid hh.1; have hb31 := hid hh.2; have x0 := hX31.out.cK 0 _ rfl; have x1 := hX31.out.cK 1 _ rfl; have xf := hX31.out.frozen 1; obtain ⟨W32, hW32⟩ : ∃ V, W31.setCell ⟨g, 1, none⟩ (.string (R.data.extract 0 m20)) = V := ⟨_, rfl⟩; have hb32 := hid (show Below W7.heap.size W7 W32 from by rw [← hW32]; exact hb31.out.setCell (p := ⟨g, 1, none⟩) (Nat.le_of_eq hg'.out) _); have hX32 := hid (show Holds W32 g 25 (recV (cut20 R)) from by rw [← hW32, ← cut20_set R, hm20'.out]; exact hX31.out.set 1 _); have hJ32 := hid (hJ7.out.below hb32.out hJ7.out.lt); have hA32 := hid (hA7.out.on hb32.out); have hB32 := hid (bup hb32.out hB7.out); have hR32 := hid (rows_on hR7.out hb32.out); clear hR7; have hW32' := hid hW32; clear hW32 hWa hh hb31 hb32 hJ7 hA7 hB7 )
                      | ((with_reducible refine at_slot (some 137) ?_); rw [hW32'.out]; clear x0 x1 xf; refine wpList_load_mid rfl 25 (.tmp 22) rfl g 0 rfl (recV (cut20 R)) _ (by exact h_all hX32.out) Try.underlying25 rfl (by exact recSizeL _) ?_)
                      | (go_at_call 12; refine (errNum_any _ _).mono ?_; rintro e w' ⟨rfl, rfl⟩)
                      | (go_at_call 17; refine (hap.out _ hJ32.out hA32.out).mono ?_; rintro e W33 ⟨rfl, hb⟩; have hJ33 := hid (hJ32.out.below hb hJ32.out.lt); have hA33 := hid (hA32.out.on hb); have hB33 := hid (bup hb hB32.out); have hR33 := hid (rows_on hR32.out hb); clear hR32; clear hb hJ32 hA32 hB32)
                      | ((with_reducible refine at_slot (some 143) ?_); refine wpList_load_mid rfl 25 (.tmp 22) rfl g 0 rfl (recV (cut20 R)) _ (by exact h_all hX33.out) Try.underlying25 rfl (by exact recSizeL _) ?_)
                      | ((with_reducible refine at_slot (some 144) ?_); refine wpList_pushRec rfl rfl (.tmp 143) (.tmp 142) (.tmp 144) rfl rfl w.heap.size A7 l1.length c7 _ (cut20 R) rfl rfl rfl (by have := hl24.out; omega) hR33.out (by exact hB33.out.size) ?_; intro A9 c9 W34 hrow9 hg9; have hR34 := hid hrow9; have hJ34 := hid (hJ33.out.grown hg9 (fun e => recs_ne hR33.out e.symm hJ33.out (by decide) rfl)); have hA34 := hid (hA33.out.grown hg9 (fun e => (recs_dk hR33.out e.symm hA33.out).1 rfl) (fun e => (recs_dk hR33.out e.symm hA33.out).2.1 rfl) (fun e => (recs_dk hR33.out e.symm hA33.out).2.2 rfl)); have hB34 := hid (hB33.out.grown hg9 hB33.out.size (fun k e => (hR33.out.lt k e).1)); clear hrow9 hg9 hJ33 hA33 hB33 hR33)
                      | fail)
                    go_roundw
                    case rel => exact ⟨i + 1, D1, l1, st1, A7, c7, by omega, by go_num, rfl, by have := hl24.out; omega, hone.out, hok1.out, hJ33.out, hA33.out, hR33.out, hB33.out⟩
                    case measure => simp [intOf]; omega
                  | true =>
                    have hfit : st1.used + wholes (41 + (cut20 R).data.size) ≤ 256 := by rw [cut20_w, hused.out]; have := hl24.out; omega
                    have hap := hid (fun W hJ hA => append_ok j2 d r b 256 D1 st1 hf0.1 (cut20 R) hsm hfit W hJ hA hjj2.out)
                    have hok2 := hok1.out.append (cut20 R) hsm hfit
                    skip
                    obtain ⟨D2, hD2⟩ : ∃ x, writeS D1 st1.used (recBytes st1.prev st1.seq (cut20 R).kind.toNat (cut20 R).data) (wholes (41 + (cut20 R).data.size)) = x := ⟨_, rfl⟩
                    obtain ⟨st2, hst2⟩ : ∃ x, st1.pass (cut20 R) (recBytes st1.prev st1.seq (cut20 R).kind.toNat (cut20 R).data) = x := ⟨_, rfl⟩
                    have hxz : (asRB st1 (cut20 R) hsm).1.2.size = 64 := by show (recBytes st1.prev st1.seq (cut20 R).kind.toNat (cut20 R).data).size = 64; rw [recBytes_size, cut20_w]
                    obtain ⟨x2, hx2⟩ : ∃ x, asRB st1 (cut20 R) hsm = x := ⟨_, rfl⟩
                    have hx2' := hid (show x2.1.1 = cut20 R from by rw [← hx2]; rfl)
                    rw [hx2] at hxz
                    rw [hD2, hst2] at hap
                    skip
                    rw [hD2, hst2, hx2] at hok2
                    have hok2' := hid hok2
                    have hlen2 := hid (show (l1 ++ [x2]).length = l1.length + 1 from by rw [List.length_append]; rfl)
                    have hone2 := hid (one_more hone.out hxz)
                    clear hok2 hD2 hst2 hx2 hf0 hfit hsm hxz
                    go_wp2_with (first
                      | ((with_reducible refine at_slot (some 127) ?_); refine wpList_plain rfl fun K hK => ?_; refine wp_load_any 25 (.tmp 126) rfl _ rfl (recV R) _ (by exact hcl.out _ hB7.out) Try.underlying25 rfl (by exact recSizeL R) ?_; refine hK _ _ ?_; clear hK K)
                      | ((with_reducible refine at_slot (some 22) ?_); refine wpList_run rfl (.pointer (some ⟨g, 0, none⟩)) (W7.alloc (.cells (recV rec0).toArray 25)) (by rw [← hg'.out]; kernel_rfl) ?_)
                      | ((with_reducible refine at_slot none ?_); refine wpList_store_mid rfl 25 (.tmp 22) (.tmp 127) rfl g 0 (recV R).toArray rfl rfl (by exact rec_there hg'.out R) (by exact recSize R) (by exact recOne R) ?_; generalize hWa : World.setCells _ _ _ _ = W31; have hh := rec_new hg'.out hWa; have hX31 := hid hh.1; have hb31 := hid hh.2; have x0 := hX31.out.cK 0 _ rfl; have x1 := hX31.out.cK 1 _ rfl; have xf := hX31.out.frozen 1; obtain ⟨W32, hW32⟩ : ∃ V, W31.setCell ⟨g, 1, none⟩ (.string (R.data.extract 0 m20)) = V := ⟨_, rfl⟩; have hb32 := hid (show Below W7.heap.size W7 W32 from by rw [← hW32]; exact hb31.out.setCell (p := ⟨g, 1, none⟩) (Nat.le_of_eq hg'.out) _); have hX32 := hid (show Holds W32 g 25 (recV (cut20 R)) from by rw [← hW32, ← cut20_set R, hm20'.out]; exact hX31.out.set 1 _); have hJ32 := hid (hJ7.out.below hb32.out hJ7.out.lt); have hA32 := hid (hA7.out.on hb32.out); have hB32 := hid (bup hb32.out hB7.out); have hR32 := hid (rows_on hR7.out hb32.out); clear hR7; have hW32' := hid hW32; clear hW32 hWa hh hb31 hb32 hJ7 hA7 hB7 )
                      | ((with_reducible refine at_slot (some 137) ?_); rw [hW32'.out]; clear x0 x1 xf; refine wpList_load_mid rfl 25 (.tmp 22) rfl g 0 rfl (recV (cut20 R)) _ (by exact h_all hX32.out) Try.underlying25 rfl (by exact recSizeL _) ?_)
                      | (go_at_call 12; refine (errNum_any _ _).mono ?_; rintro e w' ⟨rfl, rfl⟩)
                      | (go_at_call 17; refine (hap.out _ hJ32.out hA32.out).mono ?_; rintro e W33 ⟨rfl, hj, hA, hT⟩; have hX33 := hid (hT.holds hX32.out (fun h => by have := hgl.out; rcases h with e | e | e <;> omega)); have hJ33 := hid (show Holds W33 j2 67 (jCells d _ _ _) from hj); have hA33 := hid hA; have hB33 := hid (js_below hB32.out hT hjw2.out hr.out hb'.out); have hR33 := hid (recs_turnedS hR32.out hA32.out hJ32.out hT); clear hR32; clear hj hA hT hJ32 hA32 hB32 hX32)
                      | ((with_reducible refine at_slot (some 143) ?_); refine wpList_load_mid rfl 25 (.tmp 22) rfl g 0 rfl (recV (cut20 R)) _ (by exact h_all hX33.out) Try.underlying25 rfl (by exact recSizeL _) ?_)
                      | ((with_reducible refine at_slot (some 144) ?_); refine wpList_pushRec rfl rfl (.tmp 143) (.tmp 142) (.tmp 144) rfl rfl w.heap.size A7 l1.length c7 _ (cut20 R) rfl rfl rfl (by have := hl24.out; omega) hR33.out (by exact hB33.out.size) ?_; intro A9 c9 W34 hrow9 hg9; have hR34 := hid hrow9; have hJ34 := hid (hJ33.out.grown hg9 (fun e => recs_ne hR33.out e.symm hJ33.out (by decide) rfl)); have hA34 := hid (hA33.out.grown hg9 (fun e => (recs_dk hR33.out e.symm hA33.out).1 rfl) (fun e => (recs_dk hR33.out e.symm hA33.out).2.1 rfl) (fun e => (recs_dk hR33.out e.symm hA33.out).2.2 rfl)); have hB34 := hid (hB33.out.grown hg9 hB33.out.size (fun k e => (hR33.out.lt k e).1)); clear hrow9 hg9 hJ33 hA33 hB33 hR33)
                      | fail)
                    go_roundw
                    case rel => exact ⟨i + 1, D2, l1 ++ [x2], st2, A9, c9, by omega, by go_num, by rw [hlen2.out], by rw [hlen2.out]; have := hl24.out; omega, hone2.out, hok2'.out, hJ34.out, hA34.out, by rw [hlen2.out, recsV_snoc, hx2'.out]; exact hR34.out, hB34.out⟩
                    case measure => simp [intOf]; omega
                · have hi2 : ¬ (i : Int) < 6 := by omega
                  have hop3 := hid (fun W hA => open_ok d r b 256 D1.sync l1 st1 hok1.out.sync W hA)
                  have hsy3 := hid (fun W hJ hA => jSync_any j2 d r b 256 D1 st1 W hJ hA)
                  go_wp2_with (first
                    | (go_at_call 16; refine (hsy3.out _ hJ7.out hA7.out).mono ?_; rintro e W20 ⟨rfl, hA, hT⟩; have hA20 := hid hA; have hB20 := hid (dk_below8 hB7.out hT hr.out hb'.out); have hR20 := hid (recs_turned hR7.out hA7.out hT); clear hA hT hA7 hB7 hR7)
                    | (go_at_call 15; refine (hop3.out _ hA20.out).mono ?_; rintro e W21 ⟨j3, A9, c9, rfl, hj3, hrow9, hA, hk9, hT, hjl⟩; have hB21 := hid (dk_below8 hB20.out hT hr.out hb'.out); have hR21 := hid (recs_turned hR20.out hA20.out hT); have hS21 := hid (RecsA.of_row hrow9); clear hj3 hrow9 hA hk9 hT hjl hA20 hB20 hR20)
                    | (go_at_call 12; refine (errNum_any _ _).mono ?_; rintro e w' ⟨rfl, rfl⟩)
                    | (go_at_call 19; refine (sameRecs_any A9 A7 l1.length c9 c7 (l1.map (·.1.1)) _ hS21.out (RecsA.of_row hR21.out) (by have := hl24.out; omega)).mono ?_; rintro e W22 ⟨rfl, hb⟩; have hB22 := hid (bup hb hB21.out); clear hb hB21 hR21 hS21)
                    | fail)
                  go_ret
                  exact ⟨rfl, hB22.out⟩
              · have hi1 : ¬ (i : Int) < (n3 : Int) := by omega
                have hop3 := hid (fun W hA => open_ok d r b 256 D1.sync l1 st1 hok1.out.sync W hA)
                have hsy3 := hid (fun W hJ hA => jSync_any j2 d r b 256 D1 st1 W hJ hA)
                go_wp2_with (first
                  | (go_at_call 16; refine (hsy3.out _ hJ7.out hA7.out).mono ?_; rintro e W20 ⟨rfl, hA, hT⟩; have hA20 := hid hA; have hB20 := hid (dk_below8 hB7.out hT hr.out hb'.out); have hR20 := hid (recs_turned hR7.out hA7.out hT); clear hA hT hA7 hB7 hR7)
                  | (go_at_call 15; refine (hop3.out _ hA20.out).mono ?_; rintro e W21 ⟨j3, A9, c9, rfl, hj3, hrow9, hA, hk9, hT, hjl⟩; have hB21 := hid (dk_below8 hB20.out hT hr.out hb'.out); have hR21 := hid (recs_turned hR20.out hA20.out hT); have hS21 := hid (RecsA.of_row hrow9); clear hj3 hrow9 hA hk9 hT hjl hA20 hB20 hR20)
                  | (go_at_call 12; refine (errNum_any _ _).mono ?_; rintro e w' ⟨rfl, rfl⟩)
                  | (go_at_call 19; refine (sameRecs_any A9 A7 l1.length c9 c7 (l1.map (·.1.1)) _ hS21.out (RecsA.of_row hR21.out) (by have := hl24.out; omega)).mono ?_; rintro e W22 ⟨rfl, hb⟩; have hB22 := hid (bup hb hB21.out); clear hb hB21 hR21 hS21)
                  | fail)
                go_ret
                exact ⟨rfl, hB22.out⟩
    · have hi1 : ¬ (i : Int) < (n1 : Int) := by omega
      have hsy := hid (fun W hJ hA => jSync_any j d r b 256 D1 st1 W hJ hA)
      go_wp2_with (first
        | (go_at_call 16; refine (hsy.out _ hJ4.out hA4.out).mono ?_; rintro e W5 ⟨rfl, hA, hT⟩; have hA5 := hid hA; have hJ5 := hid (hT.holds hJ4.out hjj.out.1 (fun e => hjj.out.2.1 (Option.some.inj e))); have hB5 := hid (dk_below8 hB4.out hT hr.out hb'.out); clear hA hT hA4 hB4 hJ4)
        | fail)
      clear hl0 hone0 hok0 hsy
      obtain ⟨K0, hK0⟩ : ∃ k, l1.length = k := ⟨_, rfl⟩
      have hsi0 := hid (show Since D1.sync K0 from Since.nil rfl)
      have hok0 := hid hok1.out.sync
      have hone0 := hone
      have hl0 := hid (show l1.length ≤ 5 + 0 from by have := hl24.out; omega)
      have hK0' := hid hK0
      clear hK0 hok1 hone hl24
      go_loopw [16] (fun ix wr => ∃ (i : Nat) (D : Dk) (l : Stood) (st : JSt), i ≤ 6 ∧ ix = .int .i64 (i : Int) ∧ l.length ≤ 5 + i ∧ OneEach l ∧ K0 ≤ l.length ∧ Since D K0 ∧ JOk D 256 l st ∧ Holds wr j 67 (jCells d st.prev (st.seq : Int) (st.used : Int)) ∧ DiskAt wr d r b 256 D ∧ Below w.heap.size w wr) (fun ix _ => 6 - (intOf ix).toNat)
      case atStart => exact ⟨0, _, _, _, Nat.zero_le _, rfl, hl0.out, hone0.out, Nat.le_of_eq hK0'.out.symm, hsi0.out, hok0.out, hJ5.out, hA5.out, hB5.out⟩
      case round =>
        obtain ⟨i, D1, l1, st1, hilim, rfl, hli, hone, hkl, hsi, hok, hj, hA, hB⟩ := hrel
        obtain ⟨W6, rfl⟩ : ∃ V, V = wr := ⟨_, rfl⟩
        have hJ6 := hid hj
        have hA6 := hid hA
        have hB6 := hid hB
        skip
        have hok1 := hid hok
        have hone := hid hone
        have hsi := hid hsi
        have hkl := hid hkl
        have hl24 := hid (show l1.length ≤ 5 + i from hli)
        clear hj hA hB hok hli
        have u2 := IntWalk.i64_in ((i : Int) + 1) (by omega)
        by_cases hkk : i < n2
        · have hi1 : (i : Int) < (n2 : Int) := by omega
          by_cases hi92 : i < 6
          · have hi2 : (i : Int) < 6 := by omega
            have hi0 : (0 : Int) ≤ (i : Int) := by omega
            obtain ⟨p, R, hpA, hpB, hR, -⟩ := hX2.out.get (k := i) hkk
            have hcl := hid (fun V (hV : Below w.heap.size w V) => show ∀ j v, (recV R)[j]? = some v → V.cell? ((p.add (i * 2)).add j) = some v from by
              obtain ⟨p', R', h1, h2, h3, h4⟩ := (hX2.out.below hV).get (k := i) hkk
              rw [hpA] at h1
              obtain rfl := Option.some.inj h1
              rw [hR] at h3
              obtain rfl := Option.some.inj h3
              exact h4)
            subst hpA
            clear hR hpB
            obtain ⟨g, hg⟩ : ∃ g, W6.heap.size = g := ⟨_, rfl⟩
            have hg' := hid hg
            have hgl := hid (show d < g ∧ r < g ∧ b < g ∧ j < g ∧ w.heap.size ≤ g from by
              have h1 := hA6.out.lt
              have h2 := hJ6.out.lt
              have h3 := hB6.out.size
              omega)
            clear hg
            have em : min (R.data.size : Int) 20 = ((min R.data.size 20 : Nat) : Int) := by omega
            have em2 : ((min R.data.size 20 : Nat) : Int) ≤ (R.data.size : Int) := by omega
            have em3 : (0 : Int) ≤ ((min R.data.size 20 : Nat) : Int) := by omega
            obtain ⟨m20, hm20⟩ : ∃ m, min R.data.size 20 = m := ⟨_, rfl⟩
            rw [hm20] at em em2 em3
            have hm20' := hid hm20
            clear hm20
            have hf0 := hok1.out.facts
            have hused := hid (one_used hok1.out hone.out)
            cases hsm : sealMay (st1.seq : Int) (cut20 R) with
            | false =>
              have hap := hid (fun W hJ hA => append_bad j d r b 256 D1 st1 hf0.1 (cut20 R) hsm W hJ hA)
              clear hf0 hsm
              go_wp2_with (first
                | ((with_reducible refine at_slot (some 86) ?_); refine wpList_plain rfl fun K hK => ?_; refine wp_load_any 25 (.tmp 85) rfl _ rfl (recV R) _ (by exact hcl.out _ hB6.out) Try.underlying25 rfl (by exact recSizeL R) ?_; refine hK _ _ ?_; clear hK K)
                | ((with_reducible refine at_slot (some 17) ?_); refine wpList_run rfl (.pointer (some ⟨g, 0, none⟩)) (W6.alloc (.cells (recV rec0).toArray 25)) (by rw [← hg'.out]; kernel_rfl) ?_)
                | ((with_reducible refine at_slot none ?_); refine wpList_store_mid rfl 25 (.tmp 17) (.tmp 86) rfl g 0 (recV R).toArray rfl rfl (by exact rec_there hg'.out R) (by exact recSize R) (by exact recOne R) ?_; generalize hWa : World.setCells _ _ _ _ = W31; have hh := rec_new hg'.out hWa; have hX31 := hid hh.1; have hb31 := hid hh.2; have x0 := hX31.out.cK 0 _ rfl; have x1 := hX31.out.cK 1 _ rfl; have xf := hX31.out.frozen 1; obtain ⟨W32, hW32⟩ : ∃ V, W31.setCell ⟨g, 1, none⟩ (.string (R.data.extract 0 m20)) = V := ⟨_, rfl⟩; have hb32 := hid (show Below W6.heap.size W6 W32 from by rw [← hW32]; exact hb31.out.setCell (p := ⟨g, 1, none⟩) (Nat.le_of_eq hg'.out) _); have hX32 := hid (show Holds W32 g 25 (recV (cut20 R)) from by rw [← hW32, ← cut20_set R, hm20'.out]; exact hX31.out.set 1 _); have hJ32 := hid (hJ6.out.below hb32.out hJ6.out.lt); have hA32 := hid (hA6.out.on hb32.out); have hB32 := hid (bup hb32.out hB6.out); have hW32' := hid hW32; clear hW32 hWa hh hb31 hb32 hJ6 hA6 hB6 )
                | ((with_reducible refine at_slot (some 96) ?_); rw [hW32'.out]; clear x0 x1 xf; refine wpList_load_mid rfl 25 (.tmp 17) rfl g 0 rfl (recV (cut20 R)) _ (by exact h_all hX32.out) Try.underlying25 rfl (by exact recSizeL _) ?_)
                | (go_at_call 12; refine (errNum_any _ _).mono ?_; rintro e w' ⟨rfl, rfl⟩)
                | (go_at_call 17; refine (hap.out _ hJ32.out hA32.out).mono ?_; rintro e W33 ⟨rfl, hb⟩; have hJ33 := hid (hJ32.out.below hb hJ32.out.lt); have hA33 := hid (hA32.out.on hb); have hB33 := hid (bup hb hB32.out); clear hb hJ32 hA32 hB32)
                | fail)
              go_roundw
              case rel => exact ⟨i + 1, D1, l1, st1, by omega, by go_num, by have := hl24.out; omega, hone.out, hkl.out, hsi.out, hok1.out, hJ33.out, hA33.out, hB33.out⟩
              case measure => simp [intOf]; omega
            | true =>
              have hfit : st1.used + wholes (41 + (cut20 R).data.size) ≤ 256 := by rw [cut20_w, hused.out]; have := hl24.out; omega
              have hap := hid (fun W hJ hA => append_ok j d r b 256 D1 st1 hf0.1 (cut20 R) hsm hfit W hJ hA hjj.out)
              have hok2 := hok1.out.append (cut20 R) hsm hfit
              have hsi2 := since_more R hok1.out hone.out hsi.out hkl.out (by have := hl24.out; omega)
              obtain ⟨D2, hD2⟩ : ∃ x, writeS D1 st1.used (recBytes st1.prev st1.seq (cut20 R).kind.toNat (cut20 R).data) (wholes (41 + (cut20 R).data.size)) = x := ⟨_, rfl⟩
              obtain ⟨st2, hst2⟩ : ∃ x, st1.pass (cut20 R) (recBytes st1.prev st1.seq (cut20 R).kind.toNat (cut20 R).data) = x := ⟨_, rfl⟩
              have hxz : (asRB st1 (cut20 R) hsm).1.2.size = 64 := by show (recBytes st1.prev st1.seq (cut20 R).kind.toNat (cut20 R).data).size = 64; rw [recBytes_size, cut20_w]
              obtain ⟨x2, hx2⟩ : ∃ x, asRB st1 (cut20 R) hsm = x := ⟨_, rfl⟩
              have hx2' := hid (show x2.1.1 = cut20 R from by rw [← hx2]; rfl)
              rw [hx2] at hxz
              rw [hD2, hst2] at hap
              rw [hD2] at hsi2
              have hsi2' := hid hsi2
              clear hsi2
              rw [hD2, hst2, hx2] at hok2
              have hok2' := hid hok2
              have hlen2 := hid (show (l1 ++ [x2]).length = l1.length + 1 from by rw [List.length_append]; rfl)
              have hone2 := hid (one_more hone.out hxz)
              clear hok2 hD2 hst2 hx2 hf0 hfit hsm hxz
              go_wp2_with (first
                | ((with_reducible refine at_slot (some 86) ?_); refine wpList_plain rfl fun K hK => ?_; refine wp_load_any 25 (.tmp 85) rfl _ rfl (recV R) _ (by exact hcl.out _ hB6.out) Try.underlying25 rfl (by exact recSizeL R) ?_; refine hK _ _ ?_; clear hK K)
                | ((with_reducible refine at_slot (some 17) ?_); refine wpList_run rfl (.pointer (some ⟨g, 0, none⟩)) (W6.alloc (.cells (recV rec0).toArray 25)) (by rw [← hg'.out]; kernel_rfl) ?_)
                | ((with_reducible refine at_slot none ?_); refine wpList_store_mid rfl 25 (.tmp 17) (.tmp 86) rfl g 0 (recV R).toArray rfl rfl (by exact rec_there hg'.out R) (by exact recSize R) (by exact recOne R) ?_; generalize hWa : World.setCells _ _ _ _ = W31; have hh := rec_new hg'.out hWa; have hX31 := hid hh.1; have hb31 := hid hh.2; have x0 := hX31.out.cK 0 _ rfl; have x1 := hX31.out.cK 1 _ rfl; have xf := hX31.out.frozen 1; obtain ⟨W32, hW32⟩ : ∃ V, W31.setCell ⟨g, 1, none⟩ (.string (R.data.extract 0 m20)) = V := ⟨_, rfl⟩; have hb32 := hid (show Below W6.heap.size W6 W32 from by rw [← hW32]; exact hb31.out.setCell (p := ⟨g, 1, none⟩) (Nat.le_of_eq hg'.out) _); have hX32 := hid (show Holds W32 g 25 (recV (cut20 R)) from by rw [← hW32, ← cut20_set R, hm20'.out]; exact hX31.out.set 1 _); have hJ32 := hid (hJ6.out.below hb32.out hJ6.out.lt); have hA32 := hid (hA6.out.on hb32.out); have hB32 := hid (bup hb32.out hB6.out); have hW32' := hid hW32; clear hW32 hWa hh hb31 hb32 hJ6 hA6 hB6 )
                | ((with_reducible refine at_slot (some 96) ?_); rw [hW32'.out]; clear x0 x1 xf; refine wpList_load_mid rfl 25 (.tmp 17) rfl g 0 rfl (recV (cut20 R)) _ (by exact h_all hX32.out) Try.underlying25 rfl (by exact recSizeL _) ?_)
                | (go_at_call 12; refine (errNum_any _ _).mono ?_; rintro e w' ⟨rfl, rfl⟩)
                | (go_at_call 17; refine (hap.out _ hJ32.out hA32.out).mono ?_; rintro e W33 ⟨rfl, hj, hA, hT⟩; have hX33 := hid (hT.holds hX32.out (fun h => by have := hgl.out; rcases h with e | e | e <;> omega)); have hJ33 := hid (show Holds W33 j 67 (jCells d _ _ _) from hj); have hA33 := hid hA; have hB33 := hid (js_below hB32.out hT hjw.out hr.out hb'.out); clear hj hA hT hJ32 hA32 hB32 hX32)
                | fail)
              go_roundw
              case rel => exact ⟨i + 1, D2, l1 ++ [x2], st2, by omega, by go_num, by rw [hlen2.out]; have := hl24.out; omega, hone2.out, (by rw [hlen2.out]; exact Nat.le_succ_of_le hkl.out), hsi2'.out, hok2'.out, hJ33.out, hA33.out, hB33.out⟩
              case measure => simp [intOf]; omega
          · have hi2 : ¬ (i : Int) < 6 := by omega
            obtain ⟨m, st9, hm1, hm2, hst9, hn9⟩ := crash_stands keep hok1.out hone.out hsi.out hkl.out
            have hcr := hid (fun W hA => dkCrash_any keep d r b 256 D1 W hA)
            have hop := hid (fun W hA => open_st d r b 256 (D1.crash keep) (l1.take m) st9 hst9 hn9 W hA)
            have hok9 := hid (JOk.wiped (hok1.out.fine.crash keep) hst9)
            have hone9 := hid (show OneEach (l1.take m) from fun x hx => hone.out x (List.mem_of_mem_take hx))
            have hl9 := hid (show (l1.take m).length ≤ 11 + 0 from by rw [List.length_take]; have := hl24.out; omega)
            obtain ⟨l9, hl9e⟩ : ∃ x, l1.take m = x := ⟨_, rfl⟩
            rw [hl9e] at hop hok9 hone9 hl9
            clear hst9 hn9 hm1 hm2 hl9e hok1 hone hsi hkl hl24
            go_wp2_with (first
              | (go_at_call 18; refine (hcr.out _ hA6.out).mono ?_; rintro e W13 ⟨rfl, hA, hT⟩; have hA13 := hid hA; have hB13 := hid (dk_below8 hB6.out hT hr.out hb'.out); clear hA hT hA6 hB6 hJ6)
              | (go_at_call 15; refine (hop.out _ hA13.out).mono ?_; rintro e W14 ⟨j2, A9, c9, rfl, hj2, hrow9, hA, hT, hjl⟩; have hJ14 := hid hj2; have hA14 := hid hA; have hB14 := hid (dk_below8 hB13.out hT hr.out hb'.out); have hR14 := hid (rows_base hrow9 hB13.out.size); have hjj2 := hid (show j2 ≠ r ∧ j2 ≠ b ∧ j2 ≠ d from by have := hA13.out.lt; omega); have hjw2 := hid (show w.heap.size ≤ j2 from Nat.le_trans hB13.out.size hjl); clear hj2 hrow9 hA hT hjl hA13 hB13)
              | (go_at_call 12; refine (errNum_any _ _).mono ?_; rintro e w' ⟨rfl, rfl⟩)
              | fail)
            clear hl0 hone0 hok0 hsi0
            have hl0 := hl9
            have hone0 := hone9
            have hok0 := hok9
            go_loopw [19, 21] (fun av ix wr => ∃ (i : Nat) (D : Dk) (l : Stood) (st : JSt) (A : Option Addr) (c : Nat), i ≤ 6 ∧ ix = .int .i64 (i : Int) ∧ av = .slice A l.length c ∧ l.length ≤ 11 + i ∧ OneEach l ∧ JOk D 256 l st ∧ Holds wr j2 67 (jCells d st.prev (st.seq : Int) (st.used : Int)) ∧ DiskAt wr d r b 256 D ∧ wr.ownsRow w.heap.size 25 2 (.slice A l.length c) l.length (recsV l) ∧ Below w.heap.size w wr) (fun _ ix _ => 6 - (intOf ix).toNat)
            case atStart => exact ⟨0, _, _, _, _, _, Nat.zero_le _, rfl, rfl, hl0.out, hone0.out, hok0.out, hJ14.out, hA14.out, hR14.out, hB14.out⟩
            case round =>
              obtain ⟨i, D1, l1, st1, A7, c7, hilim, rfl, rfl, hli, hone, hok, hj, hA, hrow, hB⟩ := hrel
              obtain ⟨W7, rfl⟩ : ∃ V, V = wr := ⟨_, rfl⟩
              have hJ7 := hid hj
              have hA7 := hid hA
              have hB7 := hid hB
              have hR7 := hid hrow
              have hok1 := hid hok
              have hone := hid hone
              skip
              have hl24 := hid (show l1.length ≤ 11 + i from hli)
              clear hj hA hB hok hli
              have u2 := IntWalk.i64_in ((i : Int) + 1) (by omega)
              by_cases hkk : i < n3
              · have hi1 : (i : Int) < (n3 : Int) := by omega
                by_cases hi92 : i < 6
                · have hi2 : (i : Int) < 6 := by omega
                  have hi0 : (0 : Int) ≤ (i : Int) := by omega
                  obtain ⟨p, R, hpA, hpB, hR, -⟩ := hX3.out.get (k := i) hkk
                  have hcl := hid (fun V (hV : Below w.heap.size w V) => show ∀ j v, (recV R)[j]? = some v → V.cell? ((p.add (i * 2)).add j) = some v from by
                    obtain ⟨p', R', h1, h2, h3, h4⟩ := (hX3.out.below hV).get (k := i) hkk
                    rw [hpA] at h1
                    obtain rfl := Option.some.inj h1
                    rw [hR] at h3
                    obtain rfl := Option.some.inj h3
                    exact h4)
                  subst hpA
                  clear hR hpB
                  obtain ⟨g, hg⟩ : ∃ g, W7.heap.size = g := ⟨_, rfl⟩
                  have hg' := hid hg
                  have hgl := hid (show d < g ∧ r < g ∧ b < g ∧ j2 < g ∧ w.heap.size ≤ g from by
                    have h1 := hA7.out.lt
                    have h2 := hJ7.out.lt
                    have h3 := hB7.out.size
                    omega)
                  clear hg
                  have em : min (R.data.size : Int) 20 = ((min R.data.size 20 : Nat) : Int) := by omega
                  have em2 : ((min R.data.size 20 : Nat) : Int) ≤ (R.data.size : Int) := by omega
                  have em3 : (0 : Int) ≤ ((min R.data.size 20 : Nat) : Int) := by omega
                  obtain ⟨m20, hm20⟩ : ∃ m, min R.data.size 20 = m := ⟨_, rfl⟩
                  rw [hm20] at em em2 em3
                  have hm20' := hid hm20
                  clear hm20
                  have hf0 := hok1.out.facts
                  have hused := hid (one_used hok1.out hone.out)
                  cases hsm : sealMay (st1.seq : Int) (cut20 R) with
                  | false =>
                    have hap := hid (fun W hJ hA => append_bad j2 d r b 256 D1 st1 hf0.1 (cut20 R) hsm W hJ hA)
                    clear hf0 hsm
                    go_wp2_with (first
                      | ((with_reducible refine at_slot (some 127) ?_); refine wpList_plain rfl fun K hK => ?_; refine wp_load_any 25 (.tmp 126) rfl _ rfl (recV R) _ (by exact hcl.out _ hB7.out) Try.underlying25 rfl (by exact recSizeL R) ?_; refine hK _ _ ?_; clear hK K)
                      | ((with_reducible refine at_slot (some 22) ?_); refine wpList_run rfl (.pointer (some ⟨g, 0, none⟩)) (W7.alloc (.cells (recV rec0).toArray 25)) (by rw [← hg'.out]; kernel_rfl) ?_)
                      | ((with_reducible refine at_slot none ?_); refine wpList_store_mid rfl 25 (.tmp 22) (.tmp 127) rfl g 0 (recV R).toArray rfl rfl (by exact rec_there hg'.out R) (by exact recSize R) (by exact recOne R) ?_; generalize hWa : World.setCells _ _ _ _ = W31; have hh := rec_new hg'.out hWa; have hX31 := hid hh.1; have hb31 := hid hh.2; have x0 := hX31.out.cK 0 _ rfl; have x1 := hX31.out.cK 1 _ rfl; have xf := hX31.out.frozen 1; obtain ⟨W32, hW32⟩ : ∃ V, W31.setCell ⟨g, 1, none⟩ (.string (R.data.extract 0 m20)) = V := ⟨_, rfl⟩; have hb32 := hid (show Below W7.heap.size W7 W32 from by rw [← hW32]; exact hb31.out.setCell (p := ⟨g, 1, none⟩) (Nat.le_of_eq hg'.out) _); have hX32 := hid (show Holds W32 g 25 (recV (cut20 R)) from by rw [← hW32, ← cut20_set R, hm20'.out]; exact hX31.out.set 1 _); have hJ32 := hid (hJ7.out.below hb32.out hJ7.out.lt); have hA32 := hid (hA7.out.on hb32.out); have hB32 := hid (bup hb32.out hB7.out); have hR32 := hid (rows_on hR7.out hb32.out); clear hR7; have hW32' := hid hW32; clear hW32 hWa hh hb31 hb32 hJ7 hA7 hB7 )
                      | ((with_reducible refine at_slot (some 137) ?_); rw [hW32'.out]; clear x0 x1 xf; refine wpList_load_mid rfl 25 (.tmp 22) rfl g 0 rfl (recV (cut20 R)) _ (by exact h_all hX32.out) Try.underlying25 rfl (by exact recSizeL _) ?_)
                      | (go_at_call 12; refine (errNum_any _ _).mono ?_; rintro e w' ⟨rfl, rfl⟩)
                      | (go_at_call 17; refine (hap.out _ hJ32.out hA32.out).mono ?_; rintro e W33 ⟨rfl, hb⟩; have hJ33 := hid (hJ32.out.below hb hJ32.out.lt); have hA33 := hid (hA32.out.on hb); have hB33 := hid (bup hb hB32.out); have hR33 := hid (rows_on hR32.out hb); clear hR32; clear hb hJ32 hA32 hB32)
                      | ((with_reducible refine at_slot (some 143) ?_); refine wpList_load_mid rfl 25 (.tmp 22) rfl g 0 rfl (recV (cut20 R)) _ (by exact h_all hX33.out) Try.underlying25 rfl (by exact recSizeL _) ?_)
                      | ((with_reducible refine at_slot (some 144) ?_); refine wpList_pushRec rfl rfl (.tmp 143) (.tmp 142) (.tmp 144) rfl rfl w.heap.size A7 l1.length c7 _ (cut20 R) rfl rfl rfl (by have := hl24.out; omega) hR33.out (by exact hB33.out.size) ?_; intro A9 c9 W34 hrow9 hg9; have hR34 := hid hrow9; have hJ34 := hid (hJ33.out.grown hg9 (fun e => recs_ne hR33.out e.symm hJ33.out (by decide) rfl)); have hA34 := hid (hA33.out.grown hg9 (fun e => (recs_dk hR33.out e.symm hA33.out).1 rfl) (fun e => (recs_dk hR33.out e.symm hA33.out).2.1 rfl) (fun e => (recs_dk hR33.out e.symm hA33.out).2.2 rfl)); have hB34 := hid (hB33.out.grown hg9 hB33.out.size (fun k e => (hR33.out.lt k e).1)); clear hrow9 hg9 hJ33 hA33 hB33 hR33)
                      | fail)
                    go_roundw
                    case rel => exact ⟨i + 1, D1, l1, st1, A7, c7, by omega, by go_num, rfl, by have := hl24.out; omega, hone.out, hok1.out, hJ33.out, hA33.out, hR33.out, hB33.out⟩
                    case measure => simp [intOf]; omega
                  | true =>
                    have hfit : st1.used + wholes (41 + (cut20 R).data.size) ≤ 256 := by rw [cut20_w, hused.out]; have := hl24.out; omega
                    have hap := hid (fun W hJ hA => append_ok j2 d r b 256 D1 st1 hf0.1 (cut20 R) hsm hfit W hJ hA hjj2.out)
                    have hok2 := hok1.out.append (cut20 R) hsm hfit
                    skip
                    obtain ⟨D2, hD2⟩ : ∃ x, writeS D1 st1.used (recBytes st1.prev st1.seq (cut20 R).kind.toNat (cut20 R).data) (wholes (41 + (cut20 R).data.size)) = x := ⟨_, rfl⟩
                    obtain ⟨st2, hst2⟩ : ∃ x, st1.pass (cut20 R) (recBytes st1.prev st1.seq (cut20 R).kind.toNat (cut20 R).data) = x := ⟨_, rfl⟩
                    have hxz : (asRB st1 (cut20 R) hsm).1.2.size = 64 := by show (recBytes st1.prev st1.seq (cut20 R).kind.toNat (cut20 R).data).size = 64; rw [recBytes_size, cut20_w]
                    obtain ⟨x2, hx2⟩ : ∃ x, asRB st1 (cut20 R) hsm = x := ⟨_, rfl⟩
                    have hx2' := hid (show x2.1.1 = cut20 R from by rw [← hx2]; rfl)
                    rw [hx2] at hxz
                    rw [hD2, hst2] at hap
                    skip
                    rw [hD2, hst2, hx2] at hok2
                    have hok2' := hid hok2
                    have hlen2 := hid (show (l1 ++ [x2]).length = l1.length + 1 from by rw [List.length_append]; rfl)
                    have hone2 := hid (one_more hone.out hxz)
                    clear hok2 hD2 hst2 hx2 hf0 hfit hsm hxz
                    go_wp2_with (first
                      | ((with_reducible refine at_slot (some 127) ?_); refine wpList_plain rfl fun K hK => ?_; refine wp_load_any 25 (.tmp 126) rfl _ rfl (recV R) _ (by exact hcl.out _ hB7.out) Try.underlying25 rfl (by exact recSizeL R) ?_; refine hK _ _ ?_; clear hK K)
                      | ((with_reducible refine at_slot (some 22) ?_); refine wpList_run rfl (.pointer (some ⟨g, 0, none⟩)) (W7.alloc (.cells (recV rec0).toArray 25)) (by rw [← hg'.out]; kernel_rfl) ?_)
                      | ((with_reducible refine at_slot none ?_); refine wpList_store_mid rfl 25 (.tmp 22) (.tmp 127) rfl g 0 (recV R).toArray rfl rfl (by exact rec_there hg'.out R) (by exact recSize R) (by exact recOne R) ?_; generalize hWa : World.setCells _ _ _ _ = W31; have hh := rec_new hg'.out hWa; have hX31 := hid hh.1; have hb31 := hid hh.2; have x0 := hX31.out.cK 0 _ rfl; have x1 := hX31.out.cK 1 _ rfl; have xf := hX31.out.frozen 1; obtain ⟨W32, hW32⟩ : ∃ V, W31.setCell ⟨g, 1, none⟩ (.string (R.data.extract 0 m20)) = V := ⟨_, rfl⟩; have hb32 := hid (show Below W7.heap.size W7 W32 from by rw [← hW32]; exact hb31.out.setCell (p := ⟨g, 1, none⟩) (Nat.le_of_eq hg'.out) _); have hX32 := hid (show Holds W32 g 25 (recV (cut20 R)) from by rw [← hW32, ← cut20_set R, hm20'.out]; exact hX31.out.set 1 _); have hJ32 := hid (hJ7.out.below hb32.out hJ7.out.lt); have hA32 := hid (hA7.out.on hb32.out); have hB32 := hid (bup hb32.out hB7.out); have hR32 := hid (rows_on hR7.out hb32.out); clear hR7; have hW32' := hid hW32; clear hW32 hWa hh hb31 hb32 hJ7 hA7 hB7 )
                      | ((with_reducible refine at_slot (some 137) ?_); rw [hW32'.out]; clear x0 x1 xf; refine wpList_load_mid rfl 25 (.tmp 22) rfl g 0 rfl (recV (cut20 R)) _ (by exact h_all hX32.out) Try.underlying25 rfl (by exact recSizeL _) ?_)
                      | (go_at_call 12; refine (errNum_any _ _).mono ?_; rintro e w' ⟨rfl, rfl⟩)
                      | (go_at_call 17; refine (hap.out _ hJ32.out hA32.out).mono ?_; rintro e W33 ⟨rfl, hj, hA, hT⟩; have hX33 := hid (hT.holds hX32.out (fun h => by have := hgl.out; rcases h with e | e | e <;> omega)); have hJ33 := hid (show Holds W33 j2 67 (jCells d _ _ _) from hj); have hA33 := hid hA; have hB33 := hid (js_below hB32.out hT hjw2.out hr.out hb'.out); have hR33 := hid (recs_turnedS hR32.out hA32.out hJ32.out hT); clear hR32; clear hj hA hT hJ32 hA32 hB32 hX32)
                      | ((with_reducible refine at_slot (some 143) ?_); refine wpList_load_mid rfl 25 (.tmp 22) rfl g 0 rfl (recV (cut20 R)) _ (by exact h_all hX33.out) Try.underlying25 rfl (by exact recSizeL _) ?_)
                      | ((with_reducible refine at_slot (some 144) ?_); refine wpList_pushRec rfl rfl (.tmp 143) (.tmp 142) (.tmp 144) rfl rfl w.heap.size A7 l1.length c7 _ (cut20 R) rfl rfl rfl (by have := hl24.out; omega) hR33.out (by exact hB33.out.size) ?_; intro A9 c9 W34 hrow9 hg9; have hR34 := hid hrow9; have hJ34 := hid (hJ33.out.grown hg9 (fun e => recs_ne hR33.out e.symm hJ33.out (by decide) rfl)); have hA34 := hid (hA33.out.grown hg9 (fun e => (recs_dk hR33.out e.symm hA33.out).1 rfl) (fun e => (recs_dk hR33.out e.symm hA33.out).2.1 rfl) (fun e => (recs_dk hR33.out e.symm hA33.out).2.2 rfl)); have hB34 := hid (hB33.out.grown hg9 hB33.out.size (fun k e => (hR33.out.lt k e).1)); clear hrow9 hg9 hJ33 hA33 hB33 hR33)
                      | fail)
                    go_roundw
                    case rel => exact ⟨i + 1, D2, l1 ++ [x2], st2, A9, c9, by omega, by go_num, by rw [hlen2.out], by rw [hlen2.out]; have := hl24.out; omega, hone2.out, hok2'.out, hJ34.out, hA34.out, by rw [hlen2.out, recsV_snoc, hx2'.out]; exact hR34.out, hB34.out⟩
                    case measure => simp [intOf]; omega
                · have hi2 : ¬ (i : Int) < 6 := by omega
                  have hop3 := hid (fun W hA => open_ok d r b 256 D1.sync l1 st1 hok1.out.sync W hA)
                  have hsy3 := hid (fun W hJ hA => jSync_any j2 d r b 256 D1 st1 W hJ hA)
                  go_wp2_with (first
                    | (go_at_call 16; refine (hsy3.out _ hJ7.out hA7.out).mono ?_; rintro e W20 ⟨rfl, hA, hT⟩; have hA20 := hid hA; have hB20 := hid (dk_below8 hB7.out hT hr.out hb'.out); have hR20 := hid (recs_turned hR7.out hA7.out hT); clear hA hT hA7 hB7 hR7)
                    | (go_at_call 15; refine (hop3.out _ hA20.out).mono ?_; rintro e W21 ⟨j3, A9, c9, rfl, hj3, hrow9, hA, hk9, hT, hjl⟩; have hB21 := hid (dk_below8 hB20.out hT hr.out hb'.out); have hR21 := hid (recs_turned hR20.out hA20.out hT); have hS21 := hid (RecsA.of_row hrow9); clear hj3 hrow9 hA hk9 hT hjl hA20 hB20 hR20)
                    | (go_at_call 12; refine (errNum_any _ _).mono ?_; rintro e w' ⟨rfl, rfl⟩)
                    | (go_at_call 19; refine (sameRecs_any A9 A7 l1.length c9 c7 (l1.map (·.1.1)) _ hS21.out (RecsA.of_row hR21.out) (by have := hl24.out; omega)).mono ?_; rintro e W22 ⟨rfl, hb⟩; have hB22 := hid (bup hb hB21.out); clear hb hB21 hR21 hS21)
                    | fail)
                  go_ret
                  exact ⟨rfl, hB22.out⟩
              · have hi1 : ¬ (i : Int) < (n3 : Int) := by omega
                have hop3 := hid (fun W hA => open_ok d r b 256 D1.sync l1 st1 hok1.out.sync W hA)
                have hsy3 := hid (fun W hJ hA => jSync_any j2 d r b 256 D1 st1 W hJ hA)
                go_wp2_with (first
                  | (go_at_call 16; refine (hsy3.out _ hJ7.out hA7.out).mono ?_; rintro e W20 ⟨rfl, hA, hT⟩; have hA20 := hid hA; have hB20 := hid (dk_below8 hB7.out hT hr.out hb'.out); have hR20 := hid (recs_turned hR7.out hA7.out hT); clear hA hT hA7 hB7 hR7)
                  | (go_at_call 15; refine (hop3.out _ hA20.out).mono ?_; rintro e W21 ⟨j3, A9, c9, rfl, hj3, hrow9, hA, hk9, hT, hjl⟩; have hB21 := hid (dk_below8 hB20.out hT hr.out hb'.out); have hR21 := hid (recs_turned hR20.out hA20.out hT); have hS21 := hid (RecsA.of_row hrow9); clear hj3 hrow9 hA hk9 hT hjl hA20 hB20 hR20)
                  | (go_at_call 12; refine (errNum_any _ _).mono ?_; rintro e w' ⟨rfl, rfl⟩)
                  | (go_at_call 19; refine (sameRecs_any A9 A7 l1.length c9 c7 (l1.map (·.1.1)) _ hS21.out (RecsA.of_row hR21.out) (by have := hl24.out; omega)).mono ?_; rintro e W22 ⟨rfl, hb⟩; have hB22 := hid (bup hb hB21.out); clear hb hB21 hR21 hS21)
                  | fail)
                go_ret
                exact ⟨rfl, hB22.out⟩
        · have hi1 : ¬ (i : Int) < (n2 : Int) := by omega
          obtain ⟨m, st9, hm1, hm2, hst9, hn9⟩ := crash_stands keep hok1.out hone.out hsi.out hkl.out
          have hcr := hid (fun W hA => dkCrash_any keep d r b 256 D1 W hA)
          have hop := hid (fun W hA => open_st d r b 256 (D1.crash keep) (l1.take m) st9 hst9 hn9 W hA)
          have hok9 := hid (JOk.wiped (hok1.out.fine.crash keep) hst9)
          have hone9 := hid (show OneEach (l1.take m) from fun x hx => hone.out x (List.mem_of_mem_take hx))
          have hl9 := hid (show (l1.take m).length ≤ 11 + 0 from by rw [List.length_take]; have := hl24.out; omega)
          obtain ⟨l9, hl9e⟩ : ∃ x, l1.take m = x := ⟨_, rfl⟩
          rw [hl9e] at hop hok9 hone9 hl9
          clear hst9 hn9 hm1 hm2 hl9e hok1 hone hsi hkl hl24
          go_wp2_with (first
            | (go_at_call 18; refine (hcr.out _ hA6.out).mono ?_; rintro e W13 ⟨rfl, hA, hT⟩; have hA13 := hid hA; have hB13 := hid (dk_below8 hB6.out hT hr.out hb'.out); clear hA hT hA6 hB6 hJ6)
            | (go_at_call 15; refine (hop.out _ hA13.out).mono ?_; rintro e W14 ⟨j2, A9, c9, rfl, hj2, hrow9, hA, hT, hjl⟩; have hJ14 := hid hj2; have hA14 := hid hA; have hB14 := hid (dk_below8 hB13.out hT hr.out hb'.out); have hR14 := hid (rows_base hrow9 hB13.out.size); have hjj2 := hid (show j2 ≠ r ∧ j2 ≠ b ∧ j2 ≠ d from by have := hA13.out.lt; omega); have hjw2 := hid (show w.heap.size ≤ j2 from Nat.le_trans hB13.out.size hjl); clear hj2 hrow9 hA hT hjl hA13 hB13)
            | (go_at_call 12; refine (errNum_any _ _).mono ?_; rintro e w' ⟨rfl, rfl⟩)
            | fail)
          clear hl0 hone0 hok0 hsi0
          have hl0 := hl9
          have hone0 := hone9
          have hok0 := hok9
          go_loopw [19, 21] (fun av ix wr => ∃ (i : Nat) (D : Dk) (l : Stood) (st : JSt) (A : Option Addr) (c : Nat), i ≤ 6 ∧ ix = .int .i64 (i : Int) ∧ av = .slice A l.length c ∧ l.length ≤ 11 + i ∧ OneEach l ∧ JOk D 256 l st ∧ Holds wr j2 67 (jCells d st.prev (st.seq : Int) (st.used : Int)) ∧ DiskAt wr d r b 256 D ∧ wr.ownsRow w.heap.size 25 2 (.slice A l.length c) l.length (recsV l) ∧ Below w.heap.size w wr) (fun _ ix _ => 6 - (intOf ix).toNat)
          case atStart => exact ⟨0, _, _, _, _, _, Nat.zero_le _, rfl, rfl, hl0.out, hone0.out, hok0.out, hJ14.out, hA14.out, hR14.out, hB14.out⟩
          case round =>
            obtain ⟨i, D1, l1, st1, A7, c7, hilim, rfl, rfl, hli, hone, hok, hj, hA, hrow, hB⟩ := hrel
            obtain ⟨W7, rfl⟩ : ∃ V, V = wr := ⟨_, rfl⟩
            have hJ7 := hid hj
            have hA7 := hid hA
            have hB7 := hid hB
            have hR7 := hid hrow
            have hok1 := hid hok
            have hone := hid hone
            skip
            have hl24 := hid (show l1.length ≤ 11 + i from hli)
            clear hj hA hB hok hli
            have u2 := IntWalk.i64_in ((i : Int) + 1) (by omega)
            by_cases hkk : i < n3
            · have hi1 : (i : Int) < (n3 : Int) := by omega
              by_cases hi92 : i < 6
              · have hi2 : (i : Int) < 6 := by omega
                have hi0 : (0 : Int) ≤ (i : Int) := by omega
                obtain ⟨p, R, hpA, hpB, hR, -⟩ := hX3.out.get (k := i) hkk
                have hcl := hid (fun V (hV : Below w.heap.size w V) => show ∀ j v, (recV R)[j]? = some v → V.cell? ((p.add (i * 2)).add j) = some v from by
                  obtain ⟨p', R', h1, h2, h3, h4⟩ := (hX3.out.below hV).get (k := i) hkk
                  rw [hpA] at h1
                  obtain rfl := Option.some.inj h1
                  rw [hR] at h3
                  obtain rfl := Option.some.inj h3
                  exact h4)
                subst hpA
                clear hR hpB
                obtain ⟨g, hg⟩ : ∃ g, W7.heap.size = g := ⟨_, rfl⟩
                have hg' := hid hg
                have hgl := hid (show d < g ∧ r < g ∧ b < g ∧ j2 < g ∧ w.heap.size ≤ g from by
                  have h1 := hA7.out.lt
                  have h2 := hJ7.out.lt
                  have h3 := hB7.out.size
                  omega)
                clear hg
                have em : min (R.data.size : Int) 20 = ((min R.data.size 20 : Nat) : Int) := by omega
                have em2 : ((min R.data.size 20 : Nat) : Int) ≤ (R.data.size : Int) := by omega
                have em3 : (0 : Int) ≤ ((min R.data.size 20 : Nat) : Int) := by omega
                obtain ⟨m20, hm20⟩ : ∃ m, min R.data.size 20 = m := ⟨_, rfl⟩
                rw [hm20] at em em2 em3
                have hm20' := hid hm20
                clear hm20
                have hf0 := hok1.out.facts
                have hused := hid (one_used hok1.out hone.out)
                cases hsm : sealMay (st1.seq : Int) (cut20 R) with
                | false =>
                  have hap := hid (fun W hJ hA => append_bad j2 d r b 256 D1 st1 hf0.1 (cut20 R) hsm W hJ hA)
                  clear hf0 hsm
                  go_wp2_with (first
                    | ((with_reducible refine at_slot (some 127) ?_); refine wpList_plain rfl fun K hK => ?_; refine wp_load_any 25 (.tmp 126) rfl _ rfl (recV R) _ (by exact hcl.out _ hB7.out) Try.underlying25 rfl (by exact recSizeL R) ?_; refine hK _ _ ?_; clear hK K)
                    | ((with_reducible refine at_slot (some 22) ?_); refine wpList_run rfl (.pointer (some ⟨g, 0, none⟩)) (W7.alloc (.cells (recV rec0).toArray 25)) (by rw [← hg'.out]; kernel_rfl) ?_)
                    | ((with_reducible refine at_slot none ?_); refine wpList_store_mid rfl 25 (.tmp 22) (.tmp 127) rfl g 0 (recV R).toArray rfl rfl (by exact rec_there hg'.out R) (by exact recSize R) (by exact recOne R) ?_; generalize hWa : World.setCells _ _ _ _ = W31; have hh := rec_new hg'.out hWa; have hX31 := hid hh.1; have hb31 := hid hh.2; have x0 := hX31.out.cK 0 _ rfl; have x1 := hX31.out.cK 1 _ rfl; have xf := hX31.out.frozen 1; obtain ⟨W32, hW32⟩ : ∃ V, W31.setCell ⟨g, 1, none⟩ (.string (R.data.extract 0 m20)) = V := ⟨_, rfl⟩; have hb32 := hid (show Below W7.heap.size W7 W32 from by rw [← hW32]; exact hb31.out.setCell (p := ⟨g, 1, none⟩) (Nat.le_of_eq hg'.out) _); have hX32 := hid (show Holds W32 g 25 (recV (cut20 R)) from by rw [← hW32, ← cut20_set R, hm20'.out]; exact hX31.out.set 1 _); have hJ32 := hid (hJ7.out.below hb32.out hJ7.out.lt); have hA32 := hid (hA7.out.on hb32.out); have hB32 := hid (bup hb32.out hB7.out); have hR32 := hid (rows_on hR7.out hb32.out); clear hR7; have hW32' := hid hW32; clear hW32 hWa hh hb31 hb32 hJ7 hA7 hB7 )
                    | ((with_reducible refine at_slot (some 137) ?_); rw [hW32'.out]; clear x0 x1 xf; refine wpList_load_mid rfl 25 (.tmp 22) rfl g 0 rfl (recV (cut20 R)) _ (by exact h_all hX32.out) Try.underlying25 rfl (by exact recSizeL _) ?_)
                    | (go_at_call 12; refine (errNum_any _ _).mono ?_; rintro e w' ⟨rfl, rfl⟩)
                    | (go_at_call 17; refine (hap.out _ hJ32.out hA32.out).mono ?_; rintro e W33 ⟨rfl, hb⟩; have hJ33 := hid (hJ32.out.below hb hJ32.out.lt); have hA33 := hid (hA32.out.on hb); have hB33 := hid (bup hb hB32.out); have hR33 := hid (rows_on hR32.out hb); clear hR32; clear hb hJ32 hA32 hB32)
                    | ((with_reducible refine at_slot (some 143) ?_); refine wpList_load_mid rfl 25 (.tmp 22) rfl g 0 rfl (recV (cut20 R)) _ (by exact h_all hX33.out) Try.underlying25 rfl (by exact recSizeL _) ?_)
                    | ((with_reducible refine at_slot (some 144) ?_); refine wpList_pushRec rfl rfl (.tmp 143) (.tmp 142) (.tmp 144) rfl rfl w.heap.size A7 l1.length c7 _ (cut20 R) rfl rfl rfl (by have := hl24.out; omega) hR33.out (by exact hB33.out.size) ?_; intro A9 c9 W34 hrow9 hg9; have hR34 := hid hrow9; have hJ34 := hid (hJ33.out.grown hg9 (fun e => recs_ne hR33.out e.symm hJ33.out (by decide) rfl)); have hA34 := hid (hA33.out.grown hg9 (fun e => (recs_dk hR33.out e.symm hA33.out).1 rfl) (fun e => (recs_dk hR33.out e.symm hA33.out).2.1 rfl) (fun e => (recs_dk hR33.out e.symm hA33.out).2.2 rfl)); have hB34 := hid (hB33.out.grown hg9 hB33.out.size (fun k e => (hR33.out.lt k e).1)); clear hrow9 hg9 hJ33 hA33 hB33 hR33)
                    | fail)
                  go_roundw
                  case rel => exact ⟨i + 1, D1, l1, st1, A7, c7, by omega, by go_num, rfl, by have := hl24.out; omega, hone.out, hok1.out, hJ33.out, hA33.out, hR33.out, hB33.out⟩
                  case measure => simp [intOf]; omega
                | true =>
                  have hfit : st1.used + wholes (41 + (cut20 R).data.size) ≤ 256 := by rw [cut20_w, hused.out]; have := hl24.out; omega
                  have hap := hid (fun W hJ hA => append_ok j2 d r b 256 D1 st1 hf0.1 (cut20 R) hsm hfit W hJ hA hjj2.out)
                  have hok2 := hok1.out.append (cut20 R) hsm hfit
                  skip
                  obtain ⟨D2, hD2⟩ : ∃ x, writeS D1 st1.used (recBytes st1.prev st1.seq (cut20 R).kind.toNat (cut20 R).data) (wholes (41 + (cut20 R).data.size)) = x := ⟨_, rfl⟩
                  obtain ⟨st2, hst2⟩ : ∃ x, st1.pass (cut20 R) (recBytes st1.prev st1.seq (cut20 R).kind.toNat (cut20 R).data) = x := ⟨_, rfl⟩
                  have hxz : (asRB st1 (cut20 R) hsm).1.2.size = 64 := by show (recBytes st1.prev st1.seq (cut20 R).kind.toNat (cut20 R).data).size = 64; rw [recBytes_size, cut20_w]
                  obtain ⟨x2, hx2⟩ : ∃ x, asRB st1 (cut20 R) hsm = x := ⟨_, rfl⟩
                  have hx2' := hid (show x2.1.1 = cut20 R from by rw [← hx2]; rfl)
                  rw [hx2] at hxz
                  rw [hD2, hst2] at hap
                  skip
                  rw [hD2, hst2, hx2] at hok2
                  have hok2' := hid hok2
                  have hlen2 := hid (show (l1 ++ [x2]).length = l1.length + 1 from by rw [List.length_append]; rfl)
                  have hone2 := hid (one_more hone.out hxz)
                  clear hok2 hD2 hst2 hx2 hf0 hfit hsm hxz
                  go_wp2_with (first
                    | ((with_reducible refine at_slot (some 127) ?_); refine wpList_plain rfl fun K hK => ?_; refine wp_load_any 25 (.tmp 126) rfl _ rfl (recV R) _ (by exact hcl.out _ hB7.out) Try.underlying25 rfl (by exact recSizeL R) ?_; refine hK _ _ ?_; clear hK K)
                    | ((with_reducible refine at_slot (some 22) ?_); refine wpList_run rfl (.pointer (some ⟨g, 0, none⟩)) (W7.alloc (.cells (recV rec0).toArray 25)) (by rw [← hg'.out]; kernel_rfl) ?_)
                    | ((with_reducible refine at_slot none ?_); refine wpList_store_mid rfl 25 (.tmp 22) (.tmp 127) rfl g 0 (recV R).toArray rfl rfl (by exact rec_there hg'.out R) (by exact recSize R) (by exact recOne R) ?_; generalize hWa : World.setCells _ _ _ _ = W31; have hh := rec_new hg'.out hWa; have hX31 := hid hh.1; have hb31 := hid hh.2; have x0 := hX31.out.cK 0 _ rfl; have x1 := hX31.out.cK 1 _ rfl; have xf := hX31.out.frozen 1; obtain ⟨W32, hW32⟩ : ∃ V, W31.setCell ⟨g, 1, none⟩ (.string (R.data.extract 0 m20)) = V := ⟨_, rfl⟩; have hb32 := hid (show Below W7.heap.size W7 W32 from by rw [← hW32]; exact hb31.out.setCell (p := ⟨g, 1, none⟩) (Nat.le_of_eq hg'.out) _); have hX32 := hid (show Holds W32 g 25 (recV (cut20 R)) from by rw [← hW32, ← cut20_set R, hm20'.out]; exact hX31.out.set 1 _); have hJ32 := hid (hJ7.out.below hb32.out hJ7.out.lt); have hA32 := hid (hA7.out.on hb32.out); have hB32 := hid (bup hb32.out hB7.out); have hR32 := hid (rows_on hR7.out hb32.out); clear hR7; have hW32' := hid hW32; clear hW32 hWa hh hb31 hb32 hJ7 hA7 hB7 )
                    | ((with_reducible refine at_slot (some 137) ?_); rw [hW32'.out]; clear x0 x1 xf; refine wpList_load_mid rfl 25 (.tmp 22) rfl g 0 rfl (recV (cut20 R)) _ (by exact h_all hX32.out) Try.underlying25 rfl (by exact recSizeL _) ?_)
                    | (go_at_call 12; refine (errNum_any _ _).mono ?_; rintro e w' ⟨rfl, rfl⟩)
                    | (go_at_call 17; refine (hap.out _ hJ32.out hA32.out).mono ?_; rintro e W33 ⟨rfl, hj, hA, hT⟩; have hX33 := hid (hT.holds hX32.out (fun h => by have := hgl.out; rcases h with e | e | e <;> omega)); have hJ33 := hid (show Holds W33 j2 67 (jCells d _ _ _) from hj); have hA33 := hid hA; have hB33 := hid (js_below hB32.out hT hjw2.out hr.out hb'.out); have hR33 := hid (recs_turnedS hR32.out hA32.out hJ32.out hT); clear hR32; clear hj hA hT hJ32 hA32 hB32 hX32)
                    | ((with_reducible refine at_slot (some 143) ?_); refine wpList_load_mid rfl 25 (.tmp 22) rfl g 0 rfl (recV (cut20 R)) _ (by exact h_all hX33.out) Try.underlying25 rfl (by exact recSizeL _) ?_)
                    | ((with_reducible refine at_slot (some 144) ?_); refine wpList_pushRec rfl rfl (.tmp 143) (.tmp 142) (.tmp 144) rfl rfl w.heap.size A7 l1.length c7 _ (cut20 R) rfl rfl rfl (by have := hl24.out; omega) hR33.out (by exact hB33.out.size) ?_; intro A9 c9 W34 hrow9 hg9; have hR34 := hid hrow9; have hJ34 := hid (hJ33.out.grown hg9 (fun e => recs_ne hR33.out e.symm hJ33.out (by decide) rfl)); have hA34 := hid (hA33.out.grown hg9 (fun e => (recs_dk hR33.out e.symm hA33.out).1 rfl) (fun e => (recs_dk hR33.out e.symm hA33.out).2.1 rfl) (fun e => (recs_dk hR33.out e.symm hA33.out).2.2 rfl)); have hB34 := hid (hB33.out.grown hg9 hB33.out.size (fun k e => (hR33.out.lt k e).1)); clear hrow9 hg9 hJ33 hA33 hB33 hR33)
                    | fail)
                  go_roundw
                  case rel => exact ⟨i + 1, D2, l1 ++ [x2], st2, A9, c9, by omega, by go_num, by rw [hlen2.out], by rw [hlen2.out]; have := hl24.out; omega, hone2.out, hok2'.out, hJ34.out, hA34.out, by rw [hlen2.out, recsV_snoc, hx2'.out]; exact hR34.out, hB34.out⟩
                  case measure => simp [intOf]; omega
              · have hi2 : ¬ (i : Int) < 6 := by omega
                have hop3 := hid (fun W hA => open_ok d r b 256 D1.sync l1 st1 hok1.out.sync W hA)
                have hsy3 := hid (fun W hJ hA => jSync_any j2 d r b 256 D1 st1 W hJ hA)
                go_wp2_with (first
                  | (go_at_call 16; refine (hsy3.out _ hJ7.out hA7.out).mono ?_; rintro e W20 ⟨rfl, hA, hT⟩; have hA20 := hid hA; have hB20 := hid (dk_below8 hB7.out hT hr.out hb'.out); have hR20 := hid (recs_turned hR7.out hA7.out hT); clear hA hT hA7 hB7 hR7)
                  | (go_at_call 15; refine (hop3.out _ hA20.out).mono ?_; rintro e W21 ⟨j3, A9, c9, rfl, hj3, hrow9, hA, hk9, hT, hjl⟩; have hB21 := hid (dk_below8 hB20.out hT hr.out hb'.out); have hR21 := hid (recs_turned hR20.out hA20.out hT); have hS21 := hid (RecsA.of_row hrow9); clear hj3 hrow9 hA hk9 hT hjl hA20 hB20 hR20)
                  | (go_at_call 12; refine (errNum_any _ _).mono ?_; rintro e w' ⟨rfl, rfl⟩)
                  | (go_at_call 19; refine (sameRecs_any A9 A7 l1.length c9 c7 (l1.map (·.1.1)) _ hS21.out (RecsA.of_row hR21.out) (by have := hl24.out; omega)).mono ?_; rintro e W22 ⟨rfl, hb⟩; have hB22 := hid (bup hb hB21.out); clear hb hB21 hR21 hS21)
                  | fail)
                go_ret
                exact ⟨rfl, hB22.out⟩
            · have hi1 : ¬ (i : Int) < (n3 : Int) := by omega
              have hop3 := hid (fun W hA => open_ok d r b 256 D1.sync l1 st1 hok1.out.sync W hA)
              have hsy3 := hid (fun W hJ hA => jSync_any j2 d r b 256 D1 st1 W hJ hA)
              go_wp2_with (first
                | (go_at_call 16; refine (hsy3.out _ hJ7.out hA7.out).mono ?_; rintro e W20 ⟨rfl, hA, hT⟩; have hA20 := hid hA; have hB20 := hid (dk_below8 hB7.out hT hr.out hb'.out); have hR20 := hid (recs_turned hR7.out hA7.out hT); clear hA hT hA7 hB7 hR7)
                | (go_at_call 15; refine (hop3.out _ hA20.out).mono ?_; rintro e W21 ⟨j3, A9, c9, rfl, hj3, hrow9, hA, hk9, hT, hjl⟩; have hB21 := hid (dk_below8 hB20.out hT hr.out hb'.out); have hR21 := hid (recs_turned hR20.out hA20.out hT); have hS21 := hid (RecsA.of_row hrow9); clear hj3 hrow9 hA hk9 hT hjl hA20 hB20 hR20)
                | (go_at_call 12; refine (errNum_any _ _).mono ?_; rintro e w' ⟨rfl, rfl⟩)
                | (go_at_call 19; refine (sameRecs_any A9 A7 l1.length c9 c7 (l1.map (·.1.1)) _ hS21.out (RecsA.of_row hR21.out) (by have := hl24.out; omega)).mono ?_; rintro e W22 ⟨rfl, hb⟩; have hB22 := hid (bup hb hB21.out); clear hb hB21 hR21 hS21)
                | fail)
              go_ret
              exact ⟨rfl, hB22.out⟩

end Go.Proofs.Ytlicmbmhcpfocaa
