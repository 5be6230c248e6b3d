/- Layer 5, the reference: types and their heights, lengths, which keys may be. -/
import Derived.Test.YtmfajekfipfjpaaLmCo
import Derived.Test.YtmfajekfipfjpaaOtsRr
namespace Go.Proofs.Ytmfajekfipfjpaa
open Go.RowKit
open Go.Lib (strCells strCells_length strCells_oneCell)
attribute [local irreducible] Sha.compress Sha.blocks Sha.sha Sha.pad

theorem ba_ext {a b : ByteArray} (h : a.data.toList = b.data.toList) : a = b := ByteArray.ext (Array.toList_inj.1 h)
theorem lead82 : be 2 33410 = ⟨#[130, 130]⟩ := by decide
theorem lead83 : be 2 33667 = ⟨#[131, 131]⟩ := by decide
theorem leaf_text (id : ByteArray) (r : Nat) (y : List UInt8) : Sha.sha (id ++ be 4 r ++ ⟨#[130, 130]⟩ ++ txt y).data.toList = Lms.leaf id.data.toList r y := by
  rw [← lead82]
  exact leafX_sha id r y
theorem join_text (id : ByteArray) (r : Nat) (a b : List UInt8) : Sha.sha (id ++ be 4 r ++ ⟨#[131, 131]⟩ ++ txt a ++ txt b).data.toList = Lms.join id.data.toList r a b := by
  rw [← lead83]
  exact joinX_sha id r a b

theorem rKindOf_any (h : Nat) (hh : h ≤ 1000) (w : World) : Calls Try.prog 37 #[.int .i64 (h : Int)] w fun e w' => e = .returned (.int .i64 (Lms.typ h : Int)) ∧ w' = w := by
  by_cases h5 : h = 5
  · subst h5
    go_enter Try.func37, Try.ntmps37
    go_wp2
    go_ret
    exact ⟨rfl, rfl⟩
  · have h5i : ((h : Int) == 5) = false := by rw [beq_eq_false_iff_ne]; omega
    have hw := IntWalk.i64_in (4026531840 + (h : Int)) (by omega)
    have e : Lms.typ h = 4026531840 + h := if_neg h5
    rw [e]
    go_enter Try.func37, Try.ntmps37
    go_wp2
    go_ret
    exact ⟨by go_num, rfl⟩

/-- The reference's height of a type. -/
def rHgt (t : Int) : Nat := if t < 0 then 0 else hgt t.toNat
theorem rHgt_yes {t : Int} {k : Nat} (h1 : 1 ≤ k) (h5 : k ≤ 5) (h : (Lms.typ k : Int) = t) : rHgt t = k := by
  subst h
  unfold rHgt
  rw [if_neg (by omega), Int.toNat_natCast]
  exact (hgt_yes h1 h5 rfl).1
theorem rHgt_no {t : Int} (h : ∀ j, 1 ≤ j → j < 6 → (Lms.typ j : Int) ≠ t) : rHgt t = 0 := by
  unfold rHgt
  split
  · rfl
  · exact (hgt_no fun j a b e => h j a b (by omega)).1
theorem hgt_le (t : Nat) : hgt t ≤ 5 := by
  unfold hgt
  cases e : Lms.heightOf t with
  | none => exact Nat.zero_le 5
  | some k =>
    rw [Option.getD_some]
    unfold Lms.heightOf at e
    split at e
    · have := Option.some.inj e; omega
    · split at e
      · have := Option.some.inj e; omega
      · cases e
theorem rHgt_le (t : Int) : rHgt t ≤ 5 := by
  unfold rHgt
  split
  · exact Nat.zero_le 5
  · exact hgt_le _

set_option maxRecDepth 100000 in
set_option maxHeartbeats 600000 in
theorem rHeightOf_any (t : Int) (w : World) : Calls Try.prog 55 #[.int .i64 t] w fun e w' => e = .returned (.int .i64 (rHgt t : Int)) ∧ w' = w := by
  go_enter Try.func55, Try.ntmps55
  go_wp2_with fail
  go_loopw [3] (fun i wr => ∃ k : Nat, 1 ≤ k ∧ k ≤ 6 ∧ i = .int .i64 (k : Int) ∧ (∀ j, 1 ≤ j → j < k → (Lms.typ j : Int) ≠ t) ∧ wr = w) (fun i _ => 6 - (intOf i).toNat)
  case atStart => exact ⟨1, by omega, by omega, rfl, fun j h1 h2 => by omega, rfl⟩
  case round =>
    obtain ⟨k, h1, h6, rfl, hno, rfl⟩ := hrel
    have hno' := hid hno
    clear hno
    by_cases h5 : k ≤ 5
    · have h5i : (k : Int) ≤ 5 := by omega
      have u1 := IntWalk.i64_in ((k : Int) + 1) (by omega)
      go_wp2_with fail
      refine (rKindOf_any k (by omega) _).mono ?_
      rintro e w' ⟨rfl, rfl⟩
      obtain ⟨y, hy⟩ : ∃ y, Lms.typ k = y := ⟨_, rfl⟩
      rw [hy]
      by_cases he : (y : Int) = t
      · have hyes := hid (rHgt_yes h1 h5 (hy ▸ he))
        have hei : ((y : Int) == t) = true := by simp [he]
        clear hy
        go_wp2_with fail
        go_ret
        exact ⟨by rw [hyes.out]; rfl, rfl⟩
      · have hei : ((y : Int) == t) = false := by
          rw [beq_eq_false_iff_ne]
          exact he
        go_wp2_with fail
        go_roundw
        case rel => exact ⟨k + 1, by omega, by omega, by go_num, fun j j1 j2 => by
          rcases Nat.lt_succ_iff_lt_or_eq.1 j2 with h | rfl
          · exact hno'.out j j1 h
          · rw [hy]; exact he, trivial⟩
        case measure => simp [intOf]; omega
    · have h5i : ¬ (k : Int) ≤ 5 := by omega
      have hz := hid (rHgt_no (t := t) (fun j j1 j2 => hno'.out j j1 (by omega)))
      go_wp2_with fail
      go_ret
      exact ⟨by rw [hz.out]; rfl, rfl⟩

/-- The reference's length of a signature. -/
def rSize (t kind : Int) : Nat := match Ots.par kind with
  | some o => if rHgt t = 0 then 0 else 44 + 32 * o.p + 32 * rHgt t
  | none => 0
set_option maxRecDepth 100000 in
set_option maxHeartbeats 600000 in
theorem rSize_any (t kind : Int) (w : World) : Calls Try.prog 53 #[.int .i64 t, .int .i64 kind] w fun e w' => e = .returned (.int .i64 (rSize t kind : Int)) ∧ w' = w := by
  obtain ⟨R, hR⟩ : ∃ R, rSize t kind = R := ⟨_, rfl⟩
  rw [hR]
  unfold rSize at hR
  have hP := hid (fun W => Params_any kind W)
  have hH := hid (fun W => rHeightOf_any t W)
  have hle := rHgt_le t
  unfold refPar at hP
  obtain ⟨k, hk⟩ : ∃ k, rHgt t = k := ⟨_, rfl⟩
  rw [hk] at hR hH hle
  cases hp : Ots.par kind with
  | none =>
    rw [hp] at hR hP
    simp only at hR hP
    subst hR
    clear hp hk hle
    go_enter Try.func53, Try.ntmps53
    go_wp2_with fail
    refine (hP.out _).mono ?_
    rintro e w' ⟨rfl, rfl⟩
    go_wp2_with fail
    refine (hH.out _).mono ?_
    rintro e w' ⟨rfl, rfl⟩
    go_wp2_with fail
    go_ret
    exact ⟨rfl, rfl⟩
  | some o =>
    obtain ⟨m, ho⟩ := par_ok hp
    have hp100 := ho.p100
    have hp1 : 1 ≤ o.p := by have := ho.mp; have := ho.m0; have := ho.w8; have := ho.w1; rcases Ots.par_kind hp with ⟨_, rfl⟩ | ⟨_, rfl⟩ <;> decide
    rw [hp] at hR hP
    simp only at hR hP
    obtain ⟨a, ha⟩ : ∃ a, o.p = a := ⟨_, rfl⟩
    rw [ha] at hR hP hp100 hp1
    have ea : ((a : Int) == 0) = false := by rw [beq_eq_false_iff_ne]; omega
    clear hp hk ho ha
    by_cases hk0 : k = 0
    · subst hk0
      rw [if_pos rfl] at hR
      subst hR
      go_enter Try.func53, Try.ntmps53
      go_wp2_with fail
      refine (hP.out _).mono ?_
      rintro e w' ⟨rfl, rfl⟩
      go_wp2_with fail
      refine (hH.out _).mono ?_
      rintro e w' ⟨rfl, rfl⟩
      go_wp2_with fail
      go_ret
      exact ⟨rfl, rfl⟩
    · rw [if_neg hk0] at hR
      have ek : ((k : Int) == 0) = false := by rw [beq_eq_false_iff_ne]; omega
      have u1 := IntWalk.i64_in (32 * (a : Int)) (by omega)
      have u2 := IntWalk.i64_in (40 + 32 * (a : Int)) (by omega)
      have u3 := IntWalk.i64_in (40 + 32 * (a : Int) + 4) (by omega)
      have u4 := IntWalk.i64_in (32 * (k : Int)) (by omega)
      have u5 := IntWalk.i64_in (40 + 32 * (a : Int) + 4 + 32 * (k : Int)) (by omega)
      have hR' := hid (show 40 + 32 * (a : Int) + 4 + 32 * (k : Int) = (R : Int) from by omega)
      clear hR
      go_enter Try.func53, Try.ntmps53
      go_wp2_with fail
      refine (hP.out _).mono ?_
      rintro e w' ⟨rfl, rfl⟩
      go_wp2_with fail
      refine (hH.out _).mono ?_
      rintro e w' ⟨rfl, rfl⟩
      go_wp2_with fail
      go_ret
      exact ⟨by rw [← hR'.out]; rfl, rfl⟩


end Go.Proofs.Ytmfajekfipfjpaa
