/- Layer 13: the reference's PutDir. -/
import Derived.Test.YtapegklffglnoaaDirJ
import Derived.Test.YtapegklffglnoaaRefBe
namespace Go.Proofs.Ytapegklffglnoaa
open Go.RowKit

theorem be_ofE {x : Int} (n : Nat) (hn : n ≤ 64) (h0 : 0 ≤ x) (h1 : x < 9223372036854775808) (w : World) : Calls Try.prog 59 #[.int .i64 x, .int .i64 (n : Int)] w fun e w' => e = .returned (.string (be n x.toNat)) ∧ Below w.heap.size w w' := Be_any x (n : Int) n rfl hn x.toNat (by omega) (by omega) w

set_option maxRecDepth 100000 in
set_option maxHeartbeats 8000000 in
theorem rPutDir_any (A : Option Addr) (n c B : Nat) (xs : List Ent) (w : World) (h : Ents w B A n xs) (hB : B ≤ w.heap.size) (hn : n ≤ 10000000000000) (s : ByteArray) (x : Int) (hs : eputS xs = (s, x)) :
    Calls Try.prog 23 #[.slice A n c] w (EPutPost s x w) := by
  have hM := hid (rDirMay_any A n c B xs w h hB hn)
  have hlen := h.1
  have h' := hid (h.more hB)
  cases hi : dirB xs with
  | false =>
    rw [eputS_no hi] at hs
    obtain ⟨rfl, rfl⟩ := Prod.mk.inj hs
    rw [hi] at hM
    clear h hB hi hs
    go_enter Try.func23, Try.ntmps23
    go_wp2_with fail
    refine hM.out.mono ?_
    rintro e w1 ⟨rfl, h1⟩
    have h1' := hid h1
    clear h1
    go_wp2_with fail
    go_ret2
    exact ⟨rfl, h1'.out⟩
  | true =>
    rw [eputS_yes hi] at hs
    obtain ⟨rfl, rfl⟩ := Prod.mk.inj hs
    rw [hi] at hM
    have hT := dirB_of hi
    have hle := hT.1
    have hall := hid hT.2.1
    have hbs := be_size 1 n
    have hbe := hid (be_ofE (x := (n : Int)) 1 (by decide) (by omega) (by omega))
    obtain ⟨s0, hs0⟩ : ∃ s0, (⟨#[68]⟩ : ByteArray) ++ be 1 n = s0 := ⟨_, rfl⟩
    have hend := hid (show entBytes xs = entFrom s0 xs from by
      unfold entBytes
      rw [← hs0, show (⟨#[]⟩ : ByteArray) ++ ⟨#[68]⟩ = ⟨#[68]⟩ from empty_append _, hlen])
    clear h hB hi hs hT
    go_enter Try.func23, Try.ntmps23
    go_wp2_with fail
    refine hM.out.mono ?_
    rintro e w1 ⟨rfl, h1⟩
    have h1' := hid h1
    clear h1
    go_wp2_with fail
    refine (hbe.out _).mono ?_
    rintro e w2 ⟨rfl, h2⟩
    have h2' := hid (h1'.out.trans (h2.mono h1'.out.size))
    clear h2
    go_wp2_with fail
    go_loopw [4, 5] (fun o i wr => ∃ k : Nat, k ≤ n ∧ i = .int .i64 (k : Int) ∧ o = .string (entFrom s0 (xs.take k)) ∧ Below w.heap.size w wr) (fun _ i _ => n - (intOf i).toNat)
    case atStart => exact ⟨0, Nat.zero_le _, rfl, rfl, h2'.out⟩
    case round =>
      obtain ⟨k, hk, rfl, rfl, hBr⟩ := hrel
      have hBr' := hid hBr
      by_cases hlt : k < n
      · obtain ⟨p, a, hpA, hpB, ha, hfa, hca⟩ := (h'.out.below hBr).get (k := k) hlt
        subst hpA
        have hlt' : (k : Int) < (n : Int) := by omega
        have ha' := hid ha
        have ham := hall.out a (List.mem_of_getElem? ha)
        have hbd := a.bounds ham
        have e0 := hid (fun W => show Calls Try.prog 59 #[.int .i64 (a.name.size : Int), .int .i64 1] W fun e w' => e = .returned (.string (be 1 a.name.size)) ∧ Below W.heap.size W w' from be_ofE (x := (a.name.size : Int)) 1 (by decide) (by omega) (by omega) W)
        have e1 := hid (fun W => be_ofE (x := a.owner) 1 (by decide) (by omega) (by omega) W)
        have e2 := hid (fun W => be_ofE (x := a.num) 1 (by decide) (by omega) (by omega) W)
        have hBd := hid (hBr.drew)
        have hSd := h'.out.below hBd.out
        obtain ⟨t0, ht0⟩ : ∃ t, entFrom s0 (xs.take k) = t := ⟨_, rfl⟩
        have hnext := hid (show entFrom s0 (xs.take (k + 1)) = t0 ++ be 1 a.name.size ++ a.name ++ be 1 a.owner.toNat ++ be 1 a.num.toNat from by
          rw [entFrom_next ha, ht0]
          unfold Ent.bytes
          simp only [append_assoc])
        have ht0s : t0.size ≤ 2000 := by
          have h1 := entFrom_size (s := s0) (xs := xs.take k) fun x hx => hall.out x (List.mem_of_mem_take hx)
          rw [List.length_take, ← hs0, size_append, be_size, hs0, ht0] at h1
          have h2 : t0.size ≤ 1 + 1 + 27 * min k xs.length := h1
          omega
        have hns : a.name.size ≤ 24 := hbd.2.1
        rw [ht0]
        clear hca ha hBr ham ht0 hbd
        go_wp2_with fail
        refine wp_region_held_drew (S := fun W => Ents W w.heap.size (some p) n xs) (by kernel_rfl) (by exact hSd) (fun hHeld => ?_)
        refine wpAnyH_take (i := 0) (v := .string t0) rfl (by kernel_rfl) (by kernel_rfl) (by kernel_rfl) (fun _ _ _ h => h) (yieldsIf_move _ rfl rfl rfl) hHeld ?_
        simp only [ly1, ly2, ly3, Act.put, ly5, ly6, ly7]
        refine wpAnyH_take (i := 1) (v := .slice (some p) n c) rfl (by kernel_rfl) (by kernel_rfl) (by kernel_rfl) (fun _ _ _ h => h) (yieldsIf_move _ rfl rfl rfl) hHeld ?_
        simp only [ly1, ly2, ly3, Act.put, ly5, ly6, ly7]
        refine wpAnyH_take (i := 2) (v := .int .i64 (k : Int)) rfl (by kernel_rfl) (by kernel_rfl) (by kernel_rfl) (fun _ _ _ h => h) (yieldsIf_move _ rfl rfl rfl) hHeld ?_
        simp only [ly1, ly2, ly3, Act.put, ly5, ly6, ly7]
        refine wpAnyH_take (i := 3) (v := .pointer (some (p.add (k * 3)))) rfl (by kernel_rfl) (by kernel_rfl) (by kernel_rfl) (fun _ _ _ h => h) (.inl ⟨by kernel_rfl, fun w _ => by go_simp⟩) hHeld ?_
        simp only [ly1, ly2, ly3, Act.put, ly5, ly6, ly7]
        refine wpAnyH_take (i := 4) (v := .pointer (some (p.add (k * 3)))) rfl (by kernel_rfl) (by kernel_rfl) (by kernel_rfl) (fun _ _ _ h => h) (.inl ⟨by kernel_rfl, fun w _ => by go_simp⟩) hHeld ?_
        simp only [ly1, ly2, ly3, Act.put, ly5, ly6, ly7]
        refine wpAnyH_take (i := 5) (v := .string a.name) rfl (by kernel_rfl) (by kernel_rfl) (by kernel_rfl) (fun _ _ _ h => h) (.inl ⟨by kernel_rfl, fun w hw => by have hc := (hw.at3 ha'.out).1; go_simp⟩) hHeld ?_
        simp only [ly1, ly2, ly3, Act.put, ly5, ly6, ly7]
        refine wpAnyH_take (i := 6) (v := .int .i64 (a.name.size : Int)) rfl (by kernel_rfl) (by kernel_rfl) (by kernel_rfl) (fun _ _ _ h => h) (.inl ⟨by kernel_rfl, fun w _ => by go_simp⟩) hHeld ?_
        simp only [ly1, ly2, ly3, Act.put, ly5, ly6, ly7]
        refine wpAnyH_take (i := 9) (v := .slice (some p) n c) rfl (by kernel_rfl) (by kernel_rfl) (by kernel_rfl) (fun _ _ _ h => h) (yieldsIf_move _ rfl rfl rfl) hHeld ?_
        simp only [ly1, ly2, ly3, Act.put, ly5, ly6, ly7]
        refine wpAnyH_take (i := 10) (v := .int .i64 (k : Int)) rfl (by kernel_rfl) (by kernel_rfl) (by kernel_rfl) (fun _ _ _ h => h) (yieldsIf_move _ rfl rfl rfl) hHeld ?_
        simp only [ly1, ly2, ly3, Act.put, ly5, ly6, ly7]
        refine wpAnyH_take (i := 11) (v := .pointer (some (p.add (k * 3)))) rfl (by kernel_rfl) (by kernel_rfl) (by kernel_rfl) (fun _ _ _ h => h) (.inl ⟨by kernel_rfl, fun w _ => by go_simp⟩) hHeld ?_
        simp only [ly1, ly2, ly3, Act.put, ly5, ly6, ly7]
        refine wpAnyH_take (i := 12) (v := .pointer (some (p.add (k * 3)))) rfl (by kernel_rfl) (by kernel_rfl) (by kernel_rfl) (fun _ _ _ h => h) (.inl ⟨by kernel_rfl, fun w _ => by go_simp⟩) hHeld ?_
        simp only [ly1, ly2, ly3, Act.put, ly5, ly6, ly7]
        refine wpAnyH_take (i := 13) (v := .string a.name) rfl (by kernel_rfl) (by kernel_rfl) (by kernel_rfl) (fun _ _ _ h => h) (.inl ⟨by kernel_rfl, fun w hw => by have hc := (hw.at3 ha'.out).1; go_simp⟩) hHeld ?_
        simp only [ly1, ly2, ly3, Act.put, ly5, ly6, ly7]
        refine wpAnyH_take (i := 15) (v := .slice (some p) n c) rfl (by kernel_rfl) (by kernel_rfl) (by kernel_rfl) (fun _ _ _ h => h) (yieldsIf_move _ rfl rfl rfl) hHeld ?_
        simp only [ly1, ly2, ly3, Act.put, ly5, ly6, ly7]
        refine wpAnyH_take (i := 16) (v := .int .i64 (k : Int)) rfl (by kernel_rfl) (by kernel_rfl) (by kernel_rfl) (fun _ _ _ h => h) (yieldsIf_move _ rfl rfl rfl) hHeld ?_
        simp only [ly1, ly2, ly3, Act.put, ly5, ly6, ly7]
        refine wpAnyH_take (i := 17) (v := .pointer (some (p.add (k * 3)))) rfl (by kernel_rfl) (by kernel_rfl) (by kernel_rfl) (fun _ _ _ h => h) (.inl ⟨by kernel_rfl, fun w _ => by go_simp⟩) hHeld ?_
        simp only [ly1, ly2, ly3, Act.put, ly5, ly6, ly7]
        refine wpAnyH_take (i := 18) (v := .pointer (some ((p.add (k * 3)).add 1))) rfl (by kernel_rfl) (by kernel_rfl) (by kernel_rfl) (fun _ _ _ h => h) (.inl ⟨by kernel_rfl, fun w _ => by go_simp⟩) hHeld ?_
        simp only [ly1, ly2, ly3, Act.put, ly5, ly6, ly7]
        refine wpAnyH_take (i := 19) (v := .pointer (some ((p.add (k * 3)).add 1))) rfl (by kernel_rfl) (by kernel_rfl) (by kernel_rfl) (fun _ _ _ h => h) (.inl ⟨by kernel_rfl, fun w _ => by go_simp⟩) hHeld ?_
        simp only [ly1, ly2, ly3, Act.put, ly5, ly6, ly7]
        refine wpAnyH_take (i := 20) (v := .int .i64 a.owner) rfl (by kernel_rfl) (by kernel_rfl) (by kernel_rfl) (fun _ _ _ h => h) (.inl ⟨by kernel_rfl, fun w hw => by have hc := (hw.at3 ha'.out).2.1; rw [← add_add] at hc; have hd : w.cell? ⟨(p.add (k * 3)).block, (p.add (k * 3)).off + 1, none⟩ = some (.int .i64 a.owner) := hc; clear hc; go_simp⟩) hHeld ?_
        simp only [ly1, ly2, ly3, Act.put, ly5, ly6, ly7]
        refine wpAnyH_take (i := 23) (v := .slice (some p) n c) rfl (by kernel_rfl) (by kernel_rfl) (by kernel_rfl) (fun _ _ _ h => h) (yieldsIf_move _ rfl rfl rfl) hHeld ?_
        simp only [ly1, ly2, ly3, Act.put, ly5, ly6, ly7]
        refine wpAnyH_take (i := 24) (v := .int .i64 (k : Int)) rfl (by kernel_rfl) (by kernel_rfl) (by kernel_rfl) (fun _ _ _ h => h) (yieldsIf_move _ rfl rfl rfl) hHeld ?_
        simp only [ly1, ly2, ly3, Act.put, ly5, ly6, ly7]
        refine wpAnyH_take (i := 25) (v := .pointer (some (p.add (k * 3)))) rfl (by kernel_rfl) (by kernel_rfl) (by kernel_rfl) (fun _ _ _ h => h) (.inl ⟨by kernel_rfl, fun w _ => by go_simp⟩) hHeld ?_
        simp only [ly1, ly2, ly3, Act.put, ly5, ly6, ly7]
        refine wpAnyH_take (i := 26) (v := .pointer (some ((p.add (k * 3)).add 1))) rfl (by kernel_rfl) (by kernel_rfl) (by kernel_rfl) (fun _ _ _ h => h) (.inl ⟨by kernel_rfl, fun w _ => by go_simp⟩) hHeld ?_
        simp only [ly1, ly2, ly3, Act.put, ly5, ly6, ly7]
        refine wpAnyH_take (i := 27) (v := .pointer (some (((p.add (k * 3)).add 1).add 1))) rfl (by kernel_rfl) (by kernel_rfl) (by kernel_rfl) (fun _ _ _ h => h) (.inl ⟨by kernel_rfl, fun w _ => by go_simp⟩) hHeld ?_
        simp only [ly1, ly2, ly3, Act.put, ly5, ly6, ly7]
        refine wpAnyH_take (i := 28) (v := .int .i64 a.num) rfl (by kernel_rfl) (by kernel_rfl) (by kernel_rfl) (fun _ _ _ h => h) (.inl ⟨by kernel_rfl, fun w hw => by have hc := (hw.at3 ha'.out).2.2; rw [show p.add (k * 3 + 2) = ((p.add (k * 3)).add 1).add 1 from by rw [add_add, add_add]] at hc; have hd : w.cell? ⟨(p.add (k * 3)).block, (p.add (k * 3)).off + 1 + 1, none⟩ = some (.int .i64 a.num) := hc; clear hc; go_simp⟩) hHeld ?_
        simp only [ly1, ly2, ly3, Act.put, ly5, ly6, ly7]
        refine wpAnyH_ready (rs := [7]) (by kernel_rfl) (by simp) (AllReadyH.cons rfl (fun K hK => ?_) AllReadyH.nil)
        have hK' := hid hK
        clear hK
        rw [if_pos (by kernel_rfl)]
        simp only [ly1, ly2, ly3]
        go_simp
        refine (e0.out _).mono ?_
        rintro e V0 ⟨rfl, hb⟩
        have hB0 := hid (hBd.out.trans (hb.mono hBd.out.size))
        have hS0 := hid (h'.out.below hB0.out)
        clear hb
        refine hK'.out _ _ (by exact hS0.out) (fun hHeld => ?_)
        clear hK' K
        refine wpAnyH_take (i := 8) (v := .string (t0 ++ be 1 a.name.size)) rfl (by kernel_rfl) (by kernel_rfl) (by kernel_rfl) (fun _ _ _ h => h) (.inl ⟨by kernel_rfl, fun w _ => by go_simp; simp only [be_size]; omega⟩) hHeld ?_
        simp only [ly1, ly2, ly3, Act.put, ly5, ly6, ly7]
        refine wpAnyH_take (i := 14) (v := .string (t0 ++ be 1 a.name.size ++ a.name)) rfl (by kernel_rfl) (by kernel_rfl) (by kernel_rfl) (fun _ _ _ h => h) (.inl ⟨by kernel_rfl, fun w _ => by go_simp; simp only [ByteArray.size_append, be_size]; omega⟩) hHeld ?_
        simp only [ly1, ly2, ly3, Act.put, ly5, ly6, ly7]
        refine wpAnyH_ready (rs := [21]) (by kernel_rfl) (by simp) (AllReadyH.cons rfl (fun K hK => ?_) AllReadyH.nil)
        have hK' := hid hK
        clear hK
        rw [if_pos (by kernel_rfl)]
        simp only [ly1, ly2, ly3]
        go_simp
        refine (e1.out _).mono ?_
        rintro e V1 ⟨rfl, hb⟩
        have hB1 := hid (hB0.out.trans (hb.mono hB0.out.size))
        have hS1 := hid (h'.out.below hB1.out)
        clear hb
        refine hK'.out _ _ (by exact hS1.out) (fun hHeld => ?_)
        clear hK' K
        refine wpAnyH_take (i := 22) (v := .string (t0 ++ be 1 a.name.size ++ a.name ++ be 1 a.owner.toNat)) rfl (by kernel_rfl) (by kernel_rfl) (by kernel_rfl) (fun _ _ _ h => h) (.inl ⟨by kernel_rfl, fun w _ => by go_simp; simp only [ByteArray.size_append, be_size]; omega⟩) hHeld ?_
        simp only [ly1, ly2, ly3, Act.put, ly5, ly6, ly7]
        refine wpAnyH_ready (rs := [29]) (by kernel_rfl) (by simp) (AllReadyH.cons rfl (fun K hK => ?_) AllReadyH.nil)
        have hK' := hid hK
        clear hK
        rw [if_pos (by kernel_rfl)]
        simp only [ly1, ly2, ly3]
        go_simp
        refine (e2.out _).mono ?_
        rintro e V2 ⟨rfl, hb⟩
        have hB2 := hid (hB1.out.trans (hb.mono hB1.out.size))
        have hS2 := hid (h'.out.below hB2.out)
        clear hb
        refine hK'.out _ _ (by exact hS2.out) (fun hHeld => ?_)
        clear hK' K
        refine wpAnyH_take (i := 30) (v := .string (t0 ++ be 1 a.name.size ++ a.name ++ be 1 a.owner.toNat ++ be 1 a.num.toNat)) rfl (by kernel_rfl) (by kernel_rfl) (by kernel_rfl) (fun _ _ _ h => h) (.inl ⟨by kernel_rfl, fun w _ => by go_simp; simp only [ByteArray.size_append, be_size]; omega⟩) hHeld ?_
        simp only [ly1, ly2, ly3, Act.put, ly5, ly6, ly7]
        refine wpAnyH_take (i := 31) (v := .string (t0 ++ be 1 a.name.size ++ a.name ++ be 1 a.owner.toNat ++ be 1 a.num.toNat)) rfl (by kernel_rfl) (by kernel_rfl) (by kernel_rfl) (fun _ _ _ h => h) (yieldsIf_assign _ rfl rfl rfl) hHeld ?_
        simp only [ly1, ly2, ly3, Act.put, ly5, ly6, ly7]
        refine wpAnyH_done (by kernel_rfl) ?_ _
        have hB2' := hB2.out
        go_wp2_with fail
        go_roundw
        case rel => exact ⟨k + 1, by omega, by go_num, by rw [hnext.out], hB2'⟩
        case measure => simp [intOf]; omega
      · have hlt' : ¬ (k : Int) < (n : Int) := by omega
        obtain rfl : k = n := by omega
        rw [show xs.take k = xs from by rw [← hlen, List.take_length], ← hend.out]
        clear hBr
        go_wp2_with fail
        go_ret2
        exact ⟨rfl, hBr'.out⟩

end Go.Proofs.Ytapegklffglnoaa
