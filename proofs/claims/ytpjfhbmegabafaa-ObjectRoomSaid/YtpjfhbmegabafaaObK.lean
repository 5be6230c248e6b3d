/- Layer 11: Clash: whether two unlike texts have one hash. -/
import Derived.Test.YtpjfhbmegabafaaObRf
import Derived.Test.YtpjfhbmegabafaaHashE
namespace Go.Proofs.Ytpjfhbmegabafaa
open Go.RowKit
open Go.Lib (strCells strCells_length strCells_oneCell)
attribute [local irreducible] Sha.compress Sha.blocks Sha.sha Sha.pad

theorem rObjH {d : ByteArray} {l : List UInt8} (e : obHash d = l) (hd : d.size ≤ 65536) (w : World) : Calls Try.prog 17 #[.string d] w fun e w' => e = .returned (.agg (byteCells l).toArray) ∧ Below w.heap.size w w' := by
  have := rObject_any d (by omega) w
  rw [show objAns d = obHash d from if_pos hd, e] at this
  exact this
set_option maxRecDepth 100000 in
set_option maxHeartbeats 1000000 in
theorem clash_any (A : Option Addr) (n c : Nat) (xs : List ByteArray) (w : World) (hX : Texts w w.heap.size A n xs) (hn : n ≤ 1000) (hs : ∀ x ∈ xs, x.size ≤ 65536) :
    Calls Try.prog 24 #[.slice A n c] w fun e w' => ∃ r : Bool, e = .returned (.bool r) ∧ (r = false → ∀ (i j : Nat) x y, xs[i]? = some x → xs[j]? = some y → obHash x = obHash y → x = y) ∧ Below w.heap.size w w' := by
  have hX' := hid hX
  have hs' := hid hs
  have hlen := hid hX.len
  clear hX hs
  go_enter Try.func24, Try.ntmps24
  go_wp2_with fail
  go_loopw [3] (fun ix wr => ∃ i : Nat, i ≤ n ∧ ix = .int .i64 (i : Int) ∧ Hid (∀ (a b : Nat) x y, a < i → b < i → xs[a]? = some x → xs[b]? = some y → obHash x = obHash y → x = y) ∧ Below w.heap.size w wr) (fun ix _ => n - (intOf ix).toNat)
  case atStart => exact ⟨0, Nat.zero_le _, rfl, hid (fun a _ _ _ h => absurd h (Nat.not_lt_zero a)), Below.refl _ _⟩
  case round =>
    obtain ⟨i, hi, rfl, hno, hBr⟩ := hrel
    obtain ⟨W10, rfl⟩ : ∃ V, V = wr := ⟨_, rfl⟩
    have hB10 := hid hBr
    clear hBr
    by_cases hlt : i < n
    · have hlt' : (i : Int) < (n : Int) := by omega
      have hiw := IntWalk.i64_in ((i : Int) + 1) (by omega)
      obtain ⟨p, rfl, hpB, x, hxm, hxi, hxc⟩ := hX'.out.get hlt
      have hx' := hid hxi
      have hxs := hid (hs'.out x hxm)
      have s3 : (0 : Int) ≤ (i : Int) := by omega
      clear hxi hxm
      have hcx := hid (fun V (h : Below w.heap.size w V) => (h.cell (p := p.add i) (by rw [add_block]; exact hpB)).trans hxc)
      clear hxc
      go_wp2_with fail
      go_loopw [4] (fun jx wr => ∃ j : Nat, j ≤ i ∧ jx = .int .i64 (j : Int) ∧ Hid (∀ (b : Nat) y, b < j → xs[b]? = some y → obHash x = obHash y → x = y) ∧ Below w.heap.size w wr) (fun jx _ => i - (intOf jx).toNat)
      case atStart => exact ⟨0, Nat.zero_le _, rfl, hid (fun b _ h => absurd h (Nat.not_lt_zero b)), hB10.out⟩
      case round =>
        obtain ⟨j, hj, rfl, hnj, hBr⟩ := hrel
        obtain ⟨W20, rfl⟩ : ∃ V, V = wr := ⟨_, rfl⟩
        have hB20 := hid hBr
        clear hBr hB10
        by_cases hjt : j < i
        · have hjt' : (j : Int) < (i : Int) := by omega
          have hjn : (j : Int) < (n : Int) := by omega
          have s4 : (0 : Int) ≤ (j : Int) := by omega
          have hjw := IntWalk.i64_in ((j : Int) + 1) (by omega)
          obtain ⟨p2, hp2, hpB2, y, hym, hyj, hyc⟩ := hX'.out.get (show j < n by omega)
          obtain rfl : p = p2 := Option.some.inj hp2
          have hy' := hid hyj
          have hys := hid (hs'.out y hym)
          have hcy := hid (fun V (h : Below w.heap.size w V) => (h.cell (p := p.add j) (by rw [add_block]; exact hpB2)).trans hyc)
          clear hyc hyj hym hp2 hpB2
          have hnj2 := hid (fun (hq : obHash x = obHash y → x = y) => show ∀ (b : Nat) z, b < j + 1 → xs[b]? = some z → obHash x = obHash z → x = z from fun b z hb hz => by
            by_cases h : b < j
            · exact hnj.out b z h hz
            · have e : b = j := by omega
              subst e
              rw [hy'.out] at hz
              obtain rfl := Option.some.inj hz
              exact hq)
          go_wp2_with fail
          by_cases hxy : x = y
          · subst hxy
            have hb : Below W20.heap.size W20 W20.drew := (Below.refl _ _).drew
            have hB21 := hid (below_up hb hB20.out)
            clear hb hB20
            refine wp_region_held_drew (S := fun V => V.cell? (p.add i) = some (.string x) ∧ V.cell? (p.add j) = some (.string x)) (by kernel_rfl) (by exact ⟨hcx.out _ hB21.out, hcy.out _ hB21.out⟩) (fun hHeld => ?_)
            generalize W20.drew = W21 at *
            refine tkn 0 (.slice (some p) n c) rfl (by kernel_rfl) (fun _ _ _ h => h) (yieldsIf_move _ rfl rfl rfl) hHeld ?_
            simp only [ly, Act.put]
            refine tkn 1 (.int .i64 (i : Int)) rfl (by kernel_rfl) (fun _ _ _ h => h) (yieldsIf_move _ rfl rfl rfl) hHeld ?_
            simp only [ly, Act.put]
            refine tkn 2 (.pointer (some (p.add i))) rfl (by kernel_rfl) (fun _ _ _ h => h) (.inl ⟨by kernel_rfl, fun w _ => by go_simp⟩) hHeld ?_
            simp only [ly, Act.put]
            refine tkn 3 (.string x) rfl (by kernel_rfl) (fun _ _ _ h => h) (.inl ⟨by kernel_rfl, fun V hS => by have c1 := hS.1; go_simp⟩) hHeld ?_
            simp only [ly, Act.put]
            refine tkn 4 (.slice (some p) n c) rfl (by kernel_rfl) (fun _ _ _ h => h) (yieldsIf_move _ rfl rfl rfl) hHeld ?_
            simp only [ly, Act.put]
            refine tkn 5 (.int .i64 (j : Int)) rfl (by kernel_rfl) (fun _ _ _ h => h) (yieldsIf_move _ rfl rfl rfl) hHeld ?_
            simp only [ly, Act.put]
            refine tkn 6 (.pointer (some (p.add j))) rfl (by kernel_rfl) (fun _ _ _ h => h) (.inl ⟨by kernel_rfl, fun w _ => by go_simp⟩) hHeld ?_
            simp only [ly, Act.put]
            refine tkn 7 (.string x) rfl (by kernel_rfl) (fun _ _ _ h => h) (.inl ⟨by kernel_rfl, fun V hS => by have c1 := hS.2; go_simp⟩) hHeld ?_
            simp only [ly, Act.put]
            refine tkn 8 (.bool false) rfl (by kernel_rfl) (fun _ _ _ h => h) (.inl ⟨by kernel_rfl, fun w _ => by go_simp⟩) hHeld ?_
            simp only [ly, Act.put]
            refine tkn 9 (.bool false) rfl (by kernel_rfl) (fun _ _ _ h => h) (yieldsIf_move _ rfl rfl rfl) hHeld ?_
            simp only [ly, Act.put]
            refine tkn 10 undef rfl (by kernel_rfl) (fun _ _ _ h => h) (.inr ⟨by kernel_rfl, rfl⟩) hHeld ?_
            simp only [ly, Act.put]
            refine tkn 11 undef rfl (by kernel_rfl) (fun _ _ _ h => h) (.inr ⟨by kernel_rfl, rfl⟩) hHeld ?_
            simp only [ly, Act.put]
            refine tkn 12 undef rfl (by kernel_rfl) (fun _ _ _ h => h) (.inr ⟨by kernel_rfl, rfl⟩) hHeld ?_
            simp only [ly, Act.put]
            refine tkn 13 undef rfl (by kernel_rfl) (fun _ _ _ h => h) (.inr ⟨by kernel_rfl, rfl⟩) hHeld ?_
            simp only [ly, Act.put]
            refine tkn 14 undef rfl (by kernel_rfl) (fun _ _ _ h => h) (.inr ⟨by kernel_rfl, rfl⟩) hHeld ?_
            simp only [ly, Act.put]
            refine tkn 15 undef rfl (by kernel_rfl) (fun _ _ _ h => h) (.inr ⟨by kernel_rfl, rfl⟩) hHeld ?_
            simp only [ly, Act.put]
            refine tkn 16 undef rfl (by kernel_rfl) (fun _ _ _ h => h) (.inr ⟨by kernel_rfl, rfl⟩) hHeld ?_
            simp only [ly, Act.put]
            refine tkn 17 undef rfl (by kernel_rfl) (fun _ _ _ h => h) (.inr ⟨by kernel_rfl, rfl⟩) hHeld ?_
            simp only [ly, Act.put]
            refine tkn 18 undef rfl (by kernel_rfl) (fun _ _ _ h => h) (.inr ⟨by kernel_rfl, rfl⟩) hHeld ?_
            simp only [ly, Act.put]
            refine tkn 19 undef rfl (by kernel_rfl) (fun _ _ _ h => h) (.inr ⟨by kernel_rfl, rfl⟩) hHeld ?_
            simp only [ly, Act.put]
            refine tkn 20 undef rfl (by kernel_rfl) (fun _ _ _ h => h) (.inr ⟨by kernel_rfl, rfl⟩) hHeld ?_
            simp only [ly, Act.put]
            refine tkn 21 (.bool false) rfl (by kernel_rfl) (fun _ _ _ h => h) (yieldsIf_pick _ _ _ rfl rfl rfl rfl) hHeld ?_
            simp only [ly, Act.put]
            refine wpAnyH_done (by kernel_rfl) ?_ _
            go_wp2_with fail
            go_roundw
            case rel => exact ⟨j + 1, by omega, by go_num, hid (hnj2.out (fun _ => rfl)), hB21.out⟩
            case measure => simp [intOf]; omega
          · obtain ⟨kx, hlx⟩ : ∃ l, obHash x = l := ⟨_, rfl⟩
            obtain ⟨ky, hly⟩ : ∃ l, obHash y = l := ⟨_, rfl⟩
            have hlx32 := hid (show kx.length = 32 from by rw [← hlx]; exact obHash_len x)
            have hly32 := hid (show ky.length = 32 from by rw [← hly]; exact obHash_len y)
            have hOx := hid (fun V => rObjH hlx hxs.out V)
            have hOy := hid (fun V => rObjH hly hys.out V)
            have hlx' := hid hlx
            have hly' := hid hly
            clear hlx hly
            have hne := hid hxy
            have hnl := hid (show ¬ x.toList = y.toList from fun e => hxy (by rw [Lib.toList_data, Lib.toList_data] at e; exact ByteArray.ext (Array.toList_inj.1 e)))
            clear hxy
            obtain ⟨e, he⟩ : ∃ e, (kx == ky) = e := ⟨_, rfl⟩
            have he' := hid he
            clear he
            have hb : Below W20.heap.size W20 W20.drew := (Below.refl _ _).drew
            have hB21 := hid (below_up hb hB20.out)
            clear hb hB20
            refine wp_region_held_drew (S := fun V => V.cell? (p.add i) = some (.string x) ∧ V.cell? (p.add j) = some (.string y)) (by kernel_rfl) (by exact ⟨hcx.out _ hB21.out, hcy.out _ hB21.out⟩) (fun hHeld => ?_)
            generalize W20.drew = W21 at *
            refine tkn 0 (.slice (some p) n c) rfl (by kernel_rfl) (fun _ _ _ h => h) (yieldsIf_move _ rfl rfl rfl) hHeld ?_
            simp only [ly, Act.put]
            refine tkn 1 (.int .i64 (i : Int)) rfl (by kernel_rfl) (fun _ _ _ h => h) (yieldsIf_move _ rfl rfl rfl) hHeld ?_
            simp only [ly, Act.put]
            refine tkn 2 (.pointer (some (p.add i))) rfl (by kernel_rfl) (fun _ _ _ h => h) (.inl ⟨by kernel_rfl, fun w _ => by go_simp⟩) hHeld ?_
            simp only [ly, Act.put]
            refine tkn 3 (.string x) rfl (by kernel_rfl) (fun _ _ _ h => h) (.inl ⟨by kernel_rfl, fun V hS => by have c1 := hS.1; go_simp⟩) hHeld ?_
            simp only [ly, Act.put]
            refine tkn 4 (.slice (some p) n c) rfl (by kernel_rfl) (fun _ _ _ h => h) (yieldsIf_move _ rfl rfl rfl) hHeld ?_
            simp only [ly, Act.put]
            refine tkn 5 (.int .i64 (j : Int)) rfl (by kernel_rfl) (fun _ _ _ h => h) (yieldsIf_move _ rfl rfl rfl) hHeld ?_
            simp only [ly, Act.put]
            refine tkn 6 (.pointer (some (p.add j))) rfl (by kernel_rfl) (fun _ _ _ h => h) (.inl ⟨by kernel_rfl, fun w _ => by go_simp⟩) hHeld ?_
            simp only [ly, Act.put]
            refine tkn 7 (.string y) rfl (by kernel_rfl) (fun _ _ _ h => h) (.inl ⟨by kernel_rfl, fun V hS => by have c1 := hS.2; go_simp⟩) hHeld ?_
            simp only [ly, Act.put]
            refine tkn 8 (.bool true) rfl (by kernel_rfl) (fun _ _ _ h => h) (.inl ⟨by kernel_rfl, fun w _ => by have h1 := hnl.out; go_simp⟩) hHeld ?_
            simp only [ly, Act.put]
            refine tkn 9 (.bool true) rfl (by kernel_rfl) (fun _ _ _ h => h) (yieldsIf_move _ rfl rfl rfl) hHeld ?_
            simp only [ly, Act.put]
            refine tkn 10 (.slice (some p) n c) rfl (by kernel_rfl) (fun _ _ _ h => h) (.inl ⟨by kernel_rfl, fun w _ => by go_simp⟩) hHeld ?_
            simp only [ly, Act.put]
            refine tkn 11 (.int .i64 (i : Int)) rfl (by kernel_rfl) (fun _ _ _ h => h) (.inl ⟨by kernel_rfl, fun w _ => by go_simp⟩) hHeld ?_
            simp only [ly, Act.put]
            refine tkn 12 (.pointer (some (p.add i))) rfl (by kernel_rfl) (fun _ _ _ h => h) (.inl ⟨by kernel_rfl, fun w _ => by go_simp⟩) hHeld ?_
            simp only [ly, Act.put]
            refine tkn 13 (.string x) rfl (by kernel_rfl) (fun _ _ _ h => h) (.inl ⟨by kernel_rfl, fun V hS => by have c1 := hS.1; go_simp⟩) hHeld ?_
            simp only [ly, Act.put]
            refine tkn 15 (.slice (some p) n c) rfl (by kernel_rfl) (fun _ _ _ h => h) (.inl ⟨by kernel_rfl, fun w _ => by go_simp⟩) hHeld ?_
            simp only [ly, Act.put]
            refine tkn 16 (.int .i64 (j : Int)) rfl (by kernel_rfl) (fun _ _ _ h => h) (.inl ⟨by kernel_rfl, fun w _ => by go_simp⟩) hHeld ?_
            simp only [ly, Act.put]
            refine tkn 17 (.pointer (some (p.add j))) rfl (by kernel_rfl) (fun _ _ _ h => h) (.inl ⟨by kernel_rfl, fun w _ => by go_simp⟩) hHeld ?_
            simp only [ly, Act.put]
            refine tkn 18 (.string y) rfl (by kernel_rfl) (fun _ _ _ h => h) (.inl ⟨by kernel_rfl, fun V hS => by have c1 := hS.2; go_simp⟩) hHeld ?_
            simp only [ly, Act.put]
            refine wpAnyH_ready (rs := [14]) (by kernel_rfl) (by simp) (AllReadyH.cons rfl (fun K hK => ?_) AllReadyH.nil)
            have hK' := hid hK
            clear hK
            rw [if_pos (by kernel_rfl)]
            simp only [ly1, ly2, ly3]
            go_simp
            refine (hOx.out _).mono ?_
            rintro e W22 ⟨rfl, hb⟩
            have hB22 := hid (below_up hb hB21.out)
            clear hb hB21
            refine hK'.out _ _ (by exact ⟨hcx.out _ hB22.out, hcy.out _ hB22.out⟩) (fun hHeld => ?_)
            clear hK' K
            refine wpAnyH_ready (rs := [19]) (by kernel_rfl) (by simp) (AllReadyH.cons rfl (fun K hK => ?_) AllReadyH.nil)
            have hK' := hid hK
            clear hK
            rw [if_pos (by kernel_rfl)]
            simp only [ly1, ly2, ly3]
            go_simp
            refine (hOy.out _).mono ?_
            rintro e W23 ⟨rfl, hb⟩
            have hB23 := hid (below_up hb hB22.out)
            clear hb hB22
            refine hK'.out _ _ (by exact ⟨hcx.out _ hB23.out, hcy.out _ hB23.out⟩) (fun hHeld => ?_)
            clear hK' K
            refine tkn 20 (.bool e) rfl (by kernel_rfl) (fun _ _ _ h => h) (yieldsIf_zeql (by kernel_rfl) (.tmp 30) (.tmp 35) _ rfl kx ky (by exact hlx32.out) (by exact hly32.out) e (by exact he'.out) rfl rfl) hHeld ?_
            simp only [ly, Act.put]
            refine tkn 21 (.bool e) rfl (by kernel_rfl) (fun _ _ _ h => h) (yieldsIf_pick _ _ _ rfl rfl rfl rfl) hHeld ?_
            simp only [ly, Act.put]
            refine wpAnyH_done (by kernel_rfl) ?_ _
            cases e
            · have hq := hid (show obHash x = obHash y → x = y from fun h => by
                rw [hlx'.out, hly'.out] at h
                exact absurd h (beq_eq_false_iff_ne.1 he'.out))
              go_wp2_with fail
              go_roundw
              case rel => exact ⟨j + 1, by omega, by go_num, hid (hnj2.out hq.out), hB23.out⟩
              case measure => simp [intOf]; omega
            · go_wp2_with fail
              go_ret
              exact ⟨true, rfl, (fun h => by cases h), hB23.out⟩
        · obtain rfl : j = i := by omega
          have hjt' : ¬ (j : Int) < (j : Int) := by omega
          have hno2 := hid (show ∀ (a b : Nat) u v, a < j + 1 → b < j + 1 → xs[a]? = some u → xs[b]? = some v → obHash u = obHash v → u = v from fun a b u v ha hb hu hv h => by
            by_cases h1 : a < j
            · by_cases h2 : b < j
              · exact hno.out a b u v h1 h2 hu hv h
              · obtain rfl : b = j := by omega
                rw [hx'.out] at hv
                obtain rfl := Option.some.inj hv
                exact (hnj.out a u h1 hu h.symm).symm
            · obtain rfl : a = j := by omega
              rw [hx'.out] at hu
              obtain rfl := Option.some.inj hu
              by_cases h2 : b < a
              · exact hnj.out b v h2 hv h
              · obtain rfl : b = a := by omega
                rw [hx'.out] at hv
                exact Option.some.inj hv)
          go_wp2_with fail
          go_roundw
          case rel => exact ⟨j + 1, by omega, by go_num, hno2, hB20.out⟩
          case measure => simp [intOf]; omega
    · obtain rfl : i = n := by omega
      have hlt' : ¬ (i : Int) < (i : Int) := by omega
      have hall := hid (show ∀ (a b : Nat) x y, xs[a]? = some x → xs[b]? = some y → obHash x = obHash y → x = y from fun a b x y hx hy => hno.out a b x y (by have := (List.getElem?_eq_some_iff.1 hx).1; rw [hlen.out] at this; exact this) (by have := (List.getElem?_eq_some_iff.1 hy).1; rw [hlen.out] at this; exact this) hx hy)
      go_wp2_with fail
      go_ret
      exact .inl ⟨rfl, hall.out, hB10.out⟩


end Go.Proofs.Ytpjfhbmegabafaa
