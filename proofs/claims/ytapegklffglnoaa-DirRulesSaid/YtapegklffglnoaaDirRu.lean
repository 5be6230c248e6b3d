/- Layer 13: DirRules. -/
import Derived.Test.YtapegklffglnoaaDirTh
import Derived.Test.YtapegklffglnoaaDirX
import Derived.Test.YtapegklffglnoaaArith
namespace Go.Proofs.Ytapegklffglnoaa
open Go.RowKit

theorem dir_nil : dirB [] = true := dirB_yes ⟨Nat.zero_le _, fun x hx => (by cases hx), fun i a b hi ha hb => by cases ha⟩
theorem bytes_bound {xs : List Ent} (h : dirB xs = true) : (entBytes xs).size ≤ 140737488351232 := by
  obtain ⟨h1, h2, -⟩ := dirB_of h
  unfold entBytes
  have h3 := entFrom_size (s := (⟨#[]⟩ : ByteArray) ++ ⟨#[68]⟩ ++ be 1 xs.length) h2
  rw [ByteArray.size_append, ByteArray.size_append, be_size] at h3
  have h4 : (⟨#[]⟩ : ByteArray).size + (⟨#[68]⟩ : ByteArray).size + 1 = 2 := rfl
  omega
theorem dir_fine {xs : List Ent} (h : dirB xs = true) : ∀ x ∈ xs, x.fine := fun x hx => by
  have h1 := (Ent.bounds ((dirB_of h).2.1 x hx)).2.1
  unfold Ent.fine
  omega
/-- What a Find answers, its parts by name. -/
theorem find_parts (xs : List Ent) (k : ByteArray) : ∃ (o n : Int) (f : Bool), (findE xs k).isSome = f ∧ ∀ w e w', FindPost (findE xs k) w e w' → e = .returned (.tuple #[.agg #[.int .i64 o, .int .i64 n], .bool f]) ∧ Below w.heap.size w w' :=
  ⟨_, _, _, rfl, fun _ _ _ h => h⟩
theorem may_ref {s : ByteArray} {a b : Nat} (ha : a < 16) (hb : b < 16) : (⟨s, (a : Int), 1 + (b : Int)⟩ : Ent).may = Pth.nameOk s.data.toList := by
  unfold Ent.may refB
  rw [decide_eq_true (show 0 ≤ (a : Int) ∧ (a : Int) < 24 ∧ 1 ≤ 1 + (b : Int) ∧ 1 + (b : Int) ≤ 32 by omega), Bool.and_true]

theorem with_pos {xs : List Ent} {x : Ent} : 0 < (withE xs x).length := by
  unfold withE
  simp only [List.length_append, List.length_singleton]
  omega

theorem removeS_yes {xs : List Ent} {k : ByteArray} (h : dirB xs = true) (hk : hasE xs k = true) : removeS xs k = (withoutE xs k, true) := by
  unfold removeS
  rw [h, hk]
  rfl
theorem own_nil {w : World} {n0 n c sz : Nat} {A : Option Addr} {t : TypeId} {cs : List Value} (h : w.ownsRow n0 t sz (.slice A n c) n cs) : A = none → c = 0 := by
  intro hA
  obtain ⟨-, ⟨hv, -⟩ | ⟨g, cap, cur, hv, -⟩⟩ := h
  · cases hv; rfl
  · cases hv; cases hA

set_option maxRecDepth 100000 in
set_option maxHeartbeats 16000000 in
theorem DirRules_law {w : World} (A1 : Option Addr) (n1 c1 : Nat) (ss : List ByteArray) (hin1 : TextsIn w A1 n1 c1 ss) (A2 : Option Addr) (n2 c2 : Nat) (zs : List Int) (hin2 : IntsIn w A2 n2 c2 zs) :
    Calls Try.prog 7 #[.slice A1 n1 c1, .slice A2 n2 c2] w fun e w' => e = .returned (.bool true) ∧ Below w.heap.size w w' := by
  obtain ⟨hT, hnc1, hn1, -, hsz⟩ := hin1
  obtain ⟨hZ, hnc2, hc2, -, -⟩ := hin2
  have hT0 := hid hT
  have hZ0 := hid hZ
  have hsz' := hid hsz
  clear hT hZ hsz
  go_enter Try.func7, Try.ntmps7
  go_wp2_with fail
  refine (awake13_any _).mono ?_
  rintro e W1 ⟨rfl, hb1⟩
  have hB1 := hid hb1
  have hW1 := hid hb1
  have hT1 := hid ((hT0.out.below hb1).more hb1.size)
  have hZ1 := hid ((hZ0.out.below hb1).more hb1.size)
  clear hb1 hT0 hZ0
  go_wp2_with fail
  go_loopw [5, 6, 7] (fun s v i wr => ∃ (k : Nat) (A : Option Addr) (c : Nat) (xs : List Ent), k ≤ n1 ∧ k ≤ 60 ∧ s = .slice A xs.length c ∧ v = .int .i64 (xs.length : Int) ∧ i = .int .i64 (k : Int) ∧ Ents wr wr.heap.size A xs.length xs ∧ dirB xs = true ∧ xs.length ≤ c ∧ (A = none → c = 0) ∧ Below W1.heap.size W1 wr) (fun _ _ i _ => 60 - (intOf i).toNat)
  case atStart => exact ⟨0, none, 0, [], Nat.zero_le _, by omega, rfl, rfl, rfl, Ents.nil _ _ _, dir_nil, Nat.le_refl _, fun _ => rfl, Below.refl _ _⟩
  case round =>
    obtain ⟨k, A, c, xs, hk1, hk60, rfl, rfl, rfl, hE, hd, hc, hnil, hBr⟩ := hrel
    have hE' := hid hE
    have hBr' := hid hBr
    have hd' := hid hd
    have hL := (dirB_of hd).1
    have hrise := hid (dirB_of hd).2.2
    clear hE hBr hd
    by_cases hlt : k < n1
    · by_cases hlt6 : k < 60
      · have hi1 : (k : Int) < (n1 : Int) := by omega
        have hi6 : (k : Int) < 60 := by omega
        have u1 := IntWalk.i64_in ((k : Int) + 1) (by omega)
        have u2 := IntWalk.i64_in ((xs.length : Int) + 1) (by omega)
        obtain ⟨p1, rfl, hp1, nm, hmem, hnm, ccell⟩ := (hT1.out.below hBr'.out).get (k := k) hlt
        have hs1 := hsz'.out nm hmem
        have hmx : nm.size ≤ maxLen := Nat.le_trans hs1 (by decide)
        have hcell := hid (show ∀ W', Below wr.heap.size wr W' → W'.cell? (p1.add k) = some (.string nm) from fun W' h => (h.cell (by rw [add_block]; exact Nat.lt_of_lt_of_le hp1 hBr'.out.size)).trans ccell)
        obtain ⟨fo, fn, f, hf, hfp⟩ := find_parts xs nm
        have hhas : hasE xs nm = f := by rw [← find_has hrise.out]; exact hf
        have hfp' := hid hfp
        have hhas' := hid hhas
        clear hf hfp hnm hmem hhas
        go_wp2_with fail
        refine (dirFind_any A xs.length c _ xs nm wr hE'.out (Nat.le_refl _) (by omega)).mono ?_
        intro e W2 hpost
        obtain ⟨rfl, hb⟩ := hfp'.out _ _ _ hpost
        obtain ⟨_, rfl, hH2, hbV⟩ := ref_new W2 fo fn
        have o2 := hid (on_trans hb hbV)
        clear hpost hb hH2 hbV
        have cc2 := hcell.out _ o2.out
        by_cases hp : k < n2
        · obtain ⟨p2, rfl, hp2, zcell⟩ := ((hZ1.out.below hBr'.out).below (o2.out.mono hBr'.out.size)).get (k := k) hp
          obtain ⟨z, hz⟩ : ∃ z, zs.getD k 0 = z := ⟨_, rfl⟩
          rw [hz] at zcell
          have hi2 : (k : Int) < (n2 : Int) := by omega
          obtain ⟨a, ha, hand1, -⟩ := and_mask z 4 (by decide) 15 rfl
          obtain ⟨b, hb0, hand2, -⟩ := and_mask (z / 16) 4 (by decide) 15 rfl
          have ha' : a < 16 := ha
          have hb' : b < 16 := hb0
          have u3 := IntWalk.i64_in (1 + (b : Int)) (by omega)
          have hms := may_ref (s := nm) ha' hb'
          clear ha hb0
          go_wp2_with fail
          obtain ⟨R, y, hset⟩ : ∃ p q, setS xs ⟨nm, (a : Int), 1 + (b : Int)⟩ = (p, q) := ⟨_, _, rfl⟩
          refine (dirSet_any A xs.length c _ xs ⟨nm, (a : Int), 1 + (b : Int)⟩ _ (hE'.out.on o2.out) (Nat.le_refl _) (by omega) hc hnil hmx R y hset).mono ?_
          rintro e W4 ⟨A4, c4, rfl, hown, hb⟩
          have o4 := hid (on_trans o2.out hb)
          have cc4 := hcell.out W4 o4.out
          clear hb cc2
          rcases set_cases hd'.out hset with ⟨rfl, hR, hm, hl⟩ | ⟨rfl, rfl, herr⟩
          · have hRd := hid (show dirB R = true from by rw [hR]; exact with_dir hd'.out hm hl)
            have hER := hid (ents_of_own (dir_fine hRd.out) hown)
            have hcap := own_cap hown
            have hlen : R.length = if f then xs.length else xs.length + 1 := by rw [hR, with_len]; exact congrArg (fun q => if q then xs.length else xs.length + 1) hhas'.out
            have hfd : findE R nm = some ⟨nm, (a : Int), 1 + (b : Int)⟩ := by rw [hR]; exact with_find
            obtain ⟨g4, rfl⟩ := own_head hown (by rw [hR]; exact with_pos)
            have hF := hid (dirFind_any _ R.length c4 _ R nm W4 hER.out (Nat.le_refl _) (by have := (dirB_of hRd.out).1; omega))
            rw [hfd] at hF
            clear hown hR hm hl hset hfd
            clear hE' hfp' hhas' hcell hsz'
            cases f with
            | false =>
              rw [if_neg (by decide)] at hlen
              obtain ⟨mm, hmm⟩ : ∃ m, R.length = m := ⟨_, rfl⟩
              rw [hmm] at hF hER hlen hcap ⊢
              have hFm := hid hF
              have hmm' := hid hmm
              have hm32 : mm ≤ 32 := by rw [← hmm]; exact (dirB_of hRd.out).1
              have u5 := IntWalk.i64_in (mm : Int) (by omega)
              have hEQ : (xs.length : Int) + 1 = (mm : Int) := by omega
              clear hF hmm
              clear hlen
              go_wp2_with (go_at_call 16; refine (errNum_any _ _).mono ?_; rintro e w' ⟨rfl, rfl⟩)
              refine hFm.out.mono ?_
              rintro e W5 ⟨he, hb⟩
              have he' : e = .returned (.tuple #[.agg #[.int .i64 (a : Int), .int .i64 (1 + (b : Int))], .bool true]) := he
              clear he
              subst he'
              obtain ⟨_, rfl, hH5, hbV⟩ := ref_new W5 (a : Int) (1 + (b : Int))
              have o5 := hid (on_trans hb hbV)
              have r5 := hid (hH5.any)
              clear hH5 hbV hb
              have hM := hid (dirMay_any _ mm c4 _ R _ (hER.out.on o5.out) (Nat.le_refl _) (by omega))
              rw [hRd.out] at hM
              have hne : ((mm : Int) == (mm : Int)) = true := by simp
              go_wp2_with (first
                | ((with_reducible refine at_slot (some 101) ?_); refine wpList_load_any_on (by kernel_rfl) 38 (.tmp 13) rfl ⟨W5.heap.size, 0, none⟩ rfl [.int .i64 (a : Int), .int .i64 (1 + (b : Int))] _ (by exact r5.out) Try.underlying38 rfl (by exact Try.infoRef) ?_)
                | ((with_reducible refine at_slot (some 108) ?_); refine wpList_run_on (by kernel_rfl) (.agg #[.int .i64 (a : Int), .int .i64 (1 + (b : Int))]) _ (by kernel_rfl) ?_)
                | ((with_reducible refine at_slot (some 109) ?_); refine wpList_ref_neq (by kernel_rfl) (.tmp 101) (.tmp 108) _ rfl (a : Int) (1 + (b : Int)) rfl rfl ?_)
                | fail)
              refine hM.out.mono ?_
              rintro e W6 ⟨rfl, hb⟩
              have o6 := hid (on_trans o4.out (on_trans o5.out hb))
              clear hM
              have hE6 := hid ((hER.out.on o5.out).on hb)
              clear hb
              go_wp2_with fail
              go_roundw
              case rel => exact ⟨k + 1, _, c4, R, by omega, by omega, by rw [hmm'.out], by rw [hmm'.out], by go_num, by rw [hmm'.out]; exact hE6.out, hRd.out, by rw [hmm'.out]; exact hcap, (fun h => by cases h), on_trans hBr'.out o6.out⟩
              case measure => simp [intOf]; omega
            | true =>
              rw [if_pos rfl] at hlen
              obtain ⟨mm, hmm⟩ : ∃ m, R.length = m := ⟨_, rfl⟩
              rw [hmm] at hF hER hlen hcap ⊢
              have hFm := hid hF
              have hmm' := hid hmm
              have hm32 : mm ≤ 32 := by rw [← hmm]; exact (dirB_of hRd.out).1
              have u5 := IntWalk.i64_in (mm : Int) (by omega)
              have hEQ : (xs.length : Int) = (mm : Int) := by omega
              clear hF hmm
              clear hlen
              go_wp2_with (go_at_call 16; refine (errNum_any _ _).mono ?_; rintro e w' ⟨rfl, rfl⟩)
              refine hFm.out.mono ?_
              rintro e W5 ⟨he, hb⟩
              have he' : e = .returned (.tuple #[.agg #[.int .i64 (a : Int), .int .i64 (1 + (b : Int))], .bool true]) := he
              clear he
              subst he'
              obtain ⟨_, rfl, hH5, hbV⟩ := ref_new W5 (a : Int) (1 + (b : Int))
              have o5 := hid (on_trans hb hbV)
              have r5 := hid (hH5.any)
              clear hH5 hbV hb
              have hM := hid (dirMay_any _ mm c4 _ R _ (hER.out.on o5.out) (Nat.le_refl _) (by omega))
              rw [hRd.out] at hM
              have hne : ((mm : Int) == (mm : Int)) = true := by simp
              go_wp2_with (first
                | ((with_reducible refine at_slot (some 101) ?_); refine wpList_load_any_on (by kernel_rfl) 38 (.tmp 13) rfl ⟨W5.heap.size, 0, none⟩ rfl [.int .i64 (a : Int), .int .i64 (1 + (b : Int))] _ (by exact r5.out) Try.underlying38 rfl (by exact Try.infoRef) ?_)
                | ((with_reducible refine at_slot (some 108) ?_); refine wpList_run_on (by kernel_rfl) (.agg #[.int .i64 (a : Int), .int .i64 (1 + (b : Int))]) _ (by kernel_rfl) ?_)
                | ((with_reducible refine at_slot (some 109) ?_); refine wpList_ref_neq (by kernel_rfl) (.tmp 101) (.tmp 108) _ rfl (a : Int) (1 + (b : Int)) rfl rfl ?_)
                | fail)
              refine hM.out.mono ?_
              rintro e W6 ⟨rfl, hb⟩
              have o6 := hid (on_trans o4.out (on_trans o5.out hb))
              clear hM
              have hE6 := hid ((hER.out.on o5.out).on hb)
              clear hb
              go_wp2_with fail
              go_roundw
              case rel => exact ⟨k + 1, _, c4, R, by omega, by omega, by rw [hmm'.out], by rw [hmm'.out], by go_num, by rw [hmm'.out]; exact hE6.out, hRd.out, by rw [hmm'.out]; exact hcap, (fun h => by cases h), on_trans hBr'.out o6.out⟩
              case measure => simp [intOf]; omega
          · have hE4 := hid (hE'.out.on o4.out)
            have hs := hms
            obtain ⟨nb, hnb⟩ : ∃ nb, Pth.nameOk nm.data.toList = nb := ⟨_, rfl⟩
            rw [hnb] at hs
            have hN := hid (refNameMay_any nm W4 hmx)
            rw [hnb] at hN
            clear hnb hown
            go_wp2_with (go_at_call 16; refine (errNum_any _ _).mono ?_; rintro e w' ⟨rfl, rfl⟩)
            refine hN.out.mono ?_
            rintro e w' ⟨rfl, rfl⟩
            clear hN
            cases nb with
            | false =>
              clear herr hs
              go_wp2_with fail
              go_roundw
              case rel => exact ⟨k + 1, A, c, xs, by omega, by omega, rfl, rfl, by go_num, hE4.out.more (Nat.le_refl _), hd'.out, hc, hnil, on_trans hBr'.out o4.out⟩
              case measure => simp [intOf]; omega
            | true =>
              rcases herr with h0 | ⟨h0, h32⟩
              · rw [hs] at h0
                cases h0
              · rw [hhas'.out] at h0
                subst h0
                have hx32 : ¬ (xs.length : Int) < 32 := by omega
                go_wp2_with fail
                go_roundw
                case rel => exact ⟨k + 1, A, c, xs, by omega, by omega, rfl, rfl, by go_num, hE4.out.more (Nat.le_refl _), hd'.out, hc, hnil, on_trans hBr'.out o4.out⟩
                case measure => simp [intOf]; omega

        · have hi2 : ¬ (k : Int) < (n2 : Int) := by omega
          have hand0 : bits BinOp.and IntKind.i64 0 15 = 0 := by decide
          have hw0 : IntKind.i64.wrap 1 = 1 := by decide
          have hms : (⟨nm, 0, 1⟩ : Ent).may = Pth.nameOk nm.data.toList := may_ref (s := nm) (a := 0) (b := 0) (by decide) (by decide)
          go_wp2_with fail
          obtain ⟨R, y, hset⟩ : ∃ p q, setS xs ⟨nm, (0 : Int), (1 : Int)⟩ = (p, q) := ⟨_, _, rfl⟩
          refine (dirSet_any A xs.length c _ xs ⟨nm, (0 : Int), (1 : Int)⟩ _ (hE'.out.on o2.out) (Nat.le_refl _) (by omega) hc hnil hmx R y hset).mono ?_
          rintro e W4 ⟨A4, c4, rfl, hown, hb⟩
          have o4 := hid (on_trans o2.out hb)
          have cc4 := hcell.out W4 o4.out
          clear hb cc2
          rcases set_cases hd'.out hset with ⟨rfl, hR, hm, hl⟩ | ⟨rfl, rfl, herr⟩
          · have hRd := hid (show dirB R = true from by rw [hR]; exact with_dir hd'.out hm hl)
            have hER := hid (ents_of_own (dir_fine hRd.out) hown)
            have hcap := own_cap hown
            have hlen : R.length = if f then xs.length else xs.length + 1 := by rw [hR, with_len]; exact congrArg (fun q => if q then xs.length else xs.length + 1) hhas'.out
            have hfd : findE R nm = some ⟨nm, (0 : Int), (1 : Int)⟩ := by rw [hR]; exact with_find
            obtain ⟨g4, rfl⟩ := own_head hown (by rw [hR]; exact with_pos)
            have hF := hid (dirFind_any _ R.length c4 _ R nm W4 hER.out (Nat.le_refl _) (by have := (dirB_of hRd.out).1; omega))
            rw [hfd] at hF
            clear hown hR hm hl hset hfd
            clear hE' hfp' hhas' hcell hsz'
            cases f with
            | false =>
              rw [if_neg (by decide)] at hlen
              obtain ⟨mm, hmm⟩ : ∃ m, R.length = m := ⟨_, rfl⟩
              rw [hmm] at hF hER hlen hcap ⊢
              have hFm := hid hF
              have hmm' := hid hmm
              have hm32 : mm ≤ 32 := by rw [← hmm]; exact (dirB_of hRd.out).1
              have u5 := IntWalk.i64_in (mm : Int) (by omega)
              have hEQ : (xs.length : Int) + 1 = (mm : Int) := by omega
              clear hF hmm
              clear hlen
              go_wp2_with (go_at_call 16; refine (errNum_any _ _).mono ?_; rintro e w' ⟨rfl, rfl⟩)
              refine hFm.out.mono ?_
              rintro e W5 ⟨he, hb⟩
              have he' : e = .returned (.tuple #[.agg #[.int .i64 (0 : Int), .int .i64 ((1 : Int))], .bool true]) := he
              clear he
              subst he'
              obtain ⟨_, rfl, hH5, hbV⟩ := ref_new W5 (0 : Int) ((1 : Int))
              have o5 := hid (on_trans hb hbV)
              have r5 := hid (hH5.any)
              clear hH5 hbV hb
              have hM := hid (dirMay_any _ mm c4 _ R _ (hER.out.on o5.out) (Nat.le_refl _) (by omega))
              rw [hRd.out] at hM
              have hne : ((mm : Int) == (mm : Int)) = true := by simp
              go_wp2_with (first
                | ((with_reducible refine at_slot (some 101) ?_); refine wpList_load_any_on (by kernel_rfl) 38 (.tmp 13) rfl ⟨W5.heap.size, 0, none⟩ rfl [.int .i64 (0 : Int), .int .i64 ((1 : Int))] _ (by exact r5.out) Try.underlying38 rfl (by exact Try.infoRef) ?_)
                | ((with_reducible refine at_slot (some 108) ?_); refine wpList_run_on (by kernel_rfl) (.agg #[.int .i64 (0 : Int), .int .i64 ((1 : Int))]) _ (by kernel_rfl) ?_)
                | ((with_reducible refine at_slot (some 109) ?_); refine wpList_ref_neq (by kernel_rfl) (.tmp 101) (.tmp 108) _ rfl (0 : Int) ((1 : Int)) rfl rfl ?_)
                | fail)
              refine hM.out.mono ?_
              rintro e W6 ⟨rfl, hb⟩
              have o6 := hid (on_trans o4.out (on_trans o5.out hb))
              clear hM
              have hE6 := hid ((hER.out.on o5.out).on hb)
              clear hb
              go_wp2_with fail
              go_roundw
              case rel => exact ⟨k + 1, _, c4, R, by omega, by omega, by rw [hmm'.out], by rw [hmm'.out], by go_num, by rw [hmm'.out]; exact hE6.out, hRd.out, by rw [hmm'.out]; exact hcap, (fun h => by cases h), on_trans hBr'.out o6.out⟩
              case measure => simp [intOf]; omega
            | true =>
              rw [if_pos rfl] at hlen
              obtain ⟨mm, hmm⟩ : ∃ m, R.length = m := ⟨_, rfl⟩
              rw [hmm] at hF hER hlen hcap ⊢
              have hFm := hid hF
              have hmm' := hid hmm
              have hm32 : mm ≤ 32 := by rw [← hmm]; exact (dirB_of hRd.out).1
              have u5 := IntWalk.i64_in (mm : Int) (by omega)
              have hEQ : (xs.length : Int) = (mm : Int) := by omega
              clear hF hmm
              clear hlen
              go_wp2_with (go_at_call 16; refine (errNum_any _ _).mono ?_; rintro e w' ⟨rfl, rfl⟩)
              refine hFm.out.mono ?_
              rintro e W5 ⟨he, hb⟩
              have he' : e = .returned (.tuple #[.agg #[.int .i64 (0 : Int), .int .i64 ((1 : Int))], .bool true]) := he
              clear he
              subst he'
              obtain ⟨_, rfl, hH5, hbV⟩ := ref_new W5 (0 : Int) ((1 : Int))
              have o5 := hid (on_trans hb hbV)
              have r5 := hid (hH5.any)
              clear hH5 hbV hb
              have hM := hid (dirMay_any _ mm c4 _ R _ (hER.out.on o5.out) (Nat.le_refl _) (by omega))
              rw [hRd.out] at hM
              have hne : ((mm : Int) == (mm : Int)) = true := by simp
              go_wp2_with (first
                | ((with_reducible refine at_slot (some 101) ?_); refine wpList_load_any_on (by kernel_rfl) 38 (.tmp 13) rfl ⟨W5.heap.size, 0, none⟩ rfl [.int .i64 (0 : Int), .int .i64 ((1 : Int))] _ (by exact r5.out) Try.underlying38 rfl (by exact Try.infoRef) ?_)
                | ((with_reducible refine at_slot (some 108) ?_); refine wpList_run_on (by kernel_rfl) (.agg #[.int .i64 (0 : Int), .int .i64 ((1 : Int))]) _ (by kernel_rfl) ?_)
                | ((with_reducible refine at_slot (some 109) ?_); refine wpList_ref_neq (by kernel_rfl) (.tmp 101) (.tmp 108) _ rfl (0 : Int) ((1 : Int)) rfl rfl ?_)
                | fail)
              refine hM.out.mono ?_
              rintro e W6 ⟨rfl, hb⟩
              have o6 := hid (on_trans o4.out (on_trans o5.out hb))
              clear hM
              have hE6 := hid ((hER.out.on o5.out).on hb)
              clear hb
              go_wp2_with fail
              go_roundw
              case rel => exact ⟨k + 1, _, c4, R, by omega, by omega, by rw [hmm'.out], by rw [hmm'.out], by go_num, by rw [hmm'.out]; exact hE6.out, hRd.out, by rw [hmm'.out]; exact hcap, (fun h => by cases h), on_trans hBr'.out o6.out⟩
              case measure => simp [intOf]; omega
          · have hE4 := hid (hE'.out.on o4.out)
            have hs := hms
            obtain ⟨nb, hnb⟩ : ∃ nb, Pth.nameOk nm.data.toList = nb := ⟨_, rfl⟩
            rw [hnb] at hs
            have hN := hid (refNameMay_any nm W4 hmx)
            rw [hnb] at hN
            clear hnb hown
            go_wp2_with (go_at_call 16; refine (errNum_any _ _).mono ?_; rintro e w' ⟨rfl, rfl⟩)
            refine hN.out.mono ?_
            rintro e w' ⟨rfl, rfl⟩
            clear hN
            cases nb with
            | false =>
              clear herr hs
              go_wp2_with fail
              go_roundw
              case rel => exact ⟨k + 1, A, c, xs, by omega, by omega, rfl, rfl, by go_num, hE4.out.more (Nat.le_refl _), hd'.out, hc, hnil, on_trans hBr'.out o4.out⟩
              case measure => simp [intOf]; omega
            | true =>
              rcases herr with h0 | ⟨h0, h32⟩
              · rw [hs] at h0
                cases h0
              · rw [hhas'.out] at h0
                subst h0
                have hx32 : ¬ (xs.length : Int) < 32 := by omega
                go_wp2_with fail
                go_roundw
                case rel => exact ⟨k + 1, A, c, xs, by omega, by omega, rfl, rfl, by go_num, hE4.out.more (Nat.le_refl _), hd'.out, hc, hnil, on_trans hBr'.out o4.out⟩
                case measure => simp [intOf]; omega

      · have hi1 : (k : Int) < (n1 : Int) := by omega
        have hi6 : ¬ (k : Int) < 60 := by omega
        go_wp2_with fail
        obtain ⟨sf, hsf⟩ : ∃ s, entBytes xs = s := ⟨_, rfl⟩
        have hput := eputS_yes hd'.out
        have hget := egetS_eputS hd'.out
        have hsz := bytes_bound hd'.out
        rw [hsf] at hput hget hsz
        clear hsf
        refine (dirPut_any A xs.length c _ xs wr hE'.out (Nat.le_refl _) (by omega) sf 0 hput).mono ?_
        rintro e W2 ⟨rfl, hb⟩
        have o2 := hid hb
        clear hb hput
        go_wp2_with fail
        refine (dirGet_any sf hsz xs 0 hget W2).mono ?_
        rintro e W3 ⟨A3, c3, rfl, hown, hf3, hb⟩
        have hG := hid (ents_of_own hf3 hown)
        have o3 := hid (on_trans o2.out hb)
        clear hb hown hf3 hget
        go_wp2_with (go_at_call 16; refine (errNum_any _ _).mono ?_; rintro e w' ⟨rfl, rfl⟩)
        refine (sameEnts_any A3 A xs.length c3 c _ _ xs W3 hG.out (hE'.out.on o3.out) (Nat.le_refl _) (Nat.le_refl _) (by omega)).mono ?_
        rintro e W4 ⟨rfl, hb⟩
        have o4 := hid (on_trans hBr'.out (on_trans o3.out hb))
        have hE4 := hid (hE'.out.on (on_trans o3.out hb))
        clear hb hG
        go_wp2_with fail
        go_loopw [5, 19] (fun s i wr => ∃ (j : Nat) (A : Option Addr) (c : Nat) (ys : List Ent), s = .slice A ys.length c ∧ i = .int .i64 (j : Int) ∧ Ents wr wr.heap.size A ys.length ys ∧ dirB ys = true ∧ ys.length ≤ c ∧ (A = none → c = 0) ∧ ys.length + j ≤ 32 ∧ Below W1.heap.size W1 wr) (fun _ i _ => 60 - (intOf i).toNat)
        case atStart => exact ⟨0, A, c, xs, rfl, rfl, hE4.out, hd'.out, hc, hnil, by omega, o4.out⟩
        case round =>
          obtain ⟨j, A5, c5, ys, rfl, rfl, hE5, hd5, hc5, hnil5, hj5, hB5⟩ := hrel
          have hY := hid hE5
          have hBy := hid hB5
          have hdy := hid hd5
          clear hE5 hB5 hd5
          by_cases h0 : 0 < ys.length
          · have hi0 : (0 : Int) < (ys.length : Int) := by omega
            have hj60 : (j : Int) < 60 := by omega
            have u7 := IntWalk.i64_in ((j : Int) + 1) (by omega)
            obtain ⟨y, hy⟩ : ∃ y, ys[ys.length / 2]? = some y := ⟨_, List.getElem?_eq_getElem (by omega)⟩
            obtain ⟨p, -, rfl, -⟩ := hY.out.get (k := 0) h0
            have hcell := (hY.out.at3 hy).1
            have hr5 := (dirB_of hdy.out).2.2
            have hhas := has_at hr5 hy
            have hmy : y.name.size ≤ maxLen := Nat.le_trans (dir_fine hdy.out y (List.mem_of_getElem? hy)) (by decide)
            obtain ⟨R, hR⟩ : ∃ R, withoutE ys y.name = R := ⟨_, rfl⟩
            have hrem : removeS ys y.name = (R, true) := by rw [← hR]; exact removeS_yes hdy.out hhas
            have hRl : R.length = ys.length - 1 := by rw [← hR]; exact without_len hhas
            have hRd := hid (show dirB R = true from by rw [← hR]; exact without_dir hdy.out)
            have hRf : findE R y.name = none := by rw [← hR]; exact without_find hr5
            clear hR hhas hr5 hy
            obtain ⟨nm, hnm⟩ : ∃ nm, y.name = nm := ⟨_, rfl⟩
            rw [hnm] at hcell hmy hrem hRf
            clear hnm
            go_wp2_with fail
            refine (dirRemove_any (some p) ys.length c5 _ ys nm wr hY.out (Nat.le_refl _) (by omega) hc5 hnil5 R true hrem).mono ?_
            rintro e W6 ⟨A6, c6, rfl, hown, hb⟩
            have o6 := hid (on_trans hBy.out hb)
            have hX := hid (ents_of_own (dir_fine hRd.out) hown)
            have hcap := own_cap hown
            have hnil6 := own_nil hown
            clear hb hown hrem
            have hF := dirFind_any A6 R.length c6 _ R nm W6 hX.out (Nat.le_refl _) (by omega)
            rw [hRf] at hF
            obtain ⟨mm, hmm⟩ : ∃ m, R.length = m := ⟨_, rfl⟩
            rw [hmm] at hX hF hcap hRl ⊢
            have hmm' := hid hmm
            have hF' := hid hF
            have u8' := IntWalk.i64_in (mm : Int) (by omega)
            have hEQ : (ys.length : Int) - 1 = (mm : Int) := by omega
            have hne : ((mm : Int) == (mm : Int)) = true := by simp
            clear hmm hF hRf
            have hRl' := hid hRl
            clear hRl
            go_wp2_with fail
            refine hF'.out.mono ?_
            rintro e W7 ⟨he, hb⟩
            have he' : e = .returned (.tuple #[.agg #[.int .i64 0, .int .i64 0], .bool false]) := he
            clear he
            subst he'
            obtain ⟨_, rfl, -, hbV⟩ := ref_new W7 0 0
            have o7 := hid (on_trans o6.out (on_trans hb hbV))
            have hX7 := hid (hX.out.on (on_trans hb hbV))
            clear hF' hb hbV
            go_wp2_with fail
            go_roundw
            case rel => exact ⟨j + 1, A6, c6, R, by rw [hmm'.out], by go_num, by rw [hmm'.out]; exact hX7.out, hRd.out, by rw [hmm'.out]; exact hcap, hnil6, by rw [hmm'.out]; have := hRl'.out; omega, o7.out⟩
            case measure => simp [intOf]; omega
          · have hi0 : ¬ (0 : Int) < (ys.length : Int) := by omega
            have hz : ys.length = 0 := by omega
            rw [hz]
            go_wp2_with fail
            go_ret
            exact ⟨rfl, hW1.out.trans (hBy.out.mono hW1.out.size)⟩

    · have hi1 : ¬ (k : Int) < (n1 : Int) := by omega
      go_wp2_with fail
      obtain ⟨sf, hsf⟩ : ∃ s, entBytes xs = s := ⟨_, rfl⟩
      have hput := eputS_yes hd'.out
      have hget := egetS_eputS hd'.out
      have hsz := bytes_bound hd'.out
      rw [hsf] at hput hget hsz
      clear hsf
      refine (dirPut_any A xs.length c _ xs wr hE'.out (Nat.le_refl _) (by omega) sf 0 hput).mono ?_
      rintro e W2 ⟨rfl, hb⟩
      have o2 := hid hb
      clear hb hput
      go_wp2_with fail
      refine (dirGet_any sf hsz xs 0 hget W2).mono ?_
      rintro e W3 ⟨A3, c3, rfl, hown, hf3, hb⟩
      have hG := hid (ents_of_own hf3 hown)
      have o3 := hid (on_trans o2.out hb)
      clear hb hown hf3 hget
      go_wp2_with (go_at_call 16; refine (errNum_any _ _).mono ?_; rintro e w' ⟨rfl, rfl⟩)
      refine (sameEnts_any A3 A xs.length c3 c _ _ xs W3 hG.out (hE'.out.on o3.out) (Nat.le_refl _) (Nat.le_refl _) (by omega)).mono ?_
      rintro e W4 ⟨rfl, hb⟩
      have o4 := hid (on_trans hBr'.out (on_trans o3.out hb))
      have hE4 := hid (hE'.out.on (on_trans o3.out hb))
      clear hb hG
      go_wp2_with fail
      go_loopw [5, 19] (fun s i wr => ∃ (j : Nat) (A : Option Addr) (c : Nat) (ys : List Ent), s = .slice A ys.length c ∧ i = .int .i64 (j : Int) ∧ Ents wr wr.heap.size A ys.length ys ∧ dirB ys = true ∧ ys.length ≤ c ∧ (A = none → c = 0) ∧ ys.length + j ≤ 32 ∧ Below W1.heap.size W1 wr) (fun _ i _ => 60 - (intOf i).toNat)
      case atStart => exact ⟨0, A, c, xs, rfl, rfl, hE4.out, hd'.out, hc, hnil, by omega, o4.out⟩
      case round =>
        obtain ⟨j, A5, c5, ys, rfl, rfl, hE5, hd5, hc5, hnil5, hj5, hB5⟩ := hrel
        have hY := hid hE5
        have hBy := hid hB5
        have hdy := hid hd5
        clear hE5 hB5 hd5
        by_cases h0 : 0 < ys.length
        · have hi0 : (0 : Int) < (ys.length : Int) := by omega
          have hj60 : (j : Int) < 60 := by omega
          have u7 := IntWalk.i64_in ((j : Int) + 1) (by omega)
          obtain ⟨y, hy⟩ : ∃ y, ys[ys.length / 2]? = some y := ⟨_, List.getElem?_eq_getElem (by omega)⟩
          obtain ⟨p, -, rfl, -⟩ := hY.out.get (k := 0) h0
          have hcell := (hY.out.at3 hy).1
          have hr5 := (dirB_of hdy.out).2.2
          have hhas := has_at hr5 hy
          have hmy : y.name.size ≤ maxLen := Nat.le_trans (dir_fine hdy.out y (List.mem_of_getElem? hy)) (by decide)
          obtain ⟨R, hR⟩ : ∃ R, withoutE ys y.name = R := ⟨_, rfl⟩
          have hrem : removeS ys y.name = (R, true) := by rw [← hR]; exact removeS_yes hdy.out hhas
          have hRl : R.length = ys.length - 1 := by rw [← hR]; exact without_len hhas
          have hRd := hid (show dirB R = true from by rw [← hR]; exact without_dir hdy.out)
          have hRf : findE R y.name = none := by rw [← hR]; exact without_find hr5
          clear hR hhas hr5 hy
          obtain ⟨nm, hnm⟩ : ∃ nm, y.name = nm := ⟨_, rfl⟩
          rw [hnm] at hcell hmy hrem hRf
          clear hnm
          go_wp2_with fail
          refine (dirRemove_any (some p) ys.length c5 _ ys nm wr hY.out (Nat.le_refl _) (by omega) hc5 hnil5 R true hrem).mono ?_
          rintro e W6 ⟨A6, c6, rfl, hown, hb⟩
          have o6 := hid (on_trans hBy.out hb)
          have hX := hid (ents_of_own (dir_fine hRd.out) hown)
          have hcap := own_cap hown
          have hnil6 := own_nil hown
          clear hb hown hrem
          have hF := dirFind_any A6 R.length c6 _ R nm W6 hX.out (Nat.le_refl _) (by omega)
          rw [hRf] at hF
          obtain ⟨mm, hmm⟩ : ∃ m, R.length = m := ⟨_, rfl⟩
          rw [hmm] at hX hF hcap hRl ⊢
          have hmm' := hid hmm
          have hF' := hid hF
          have u8' := IntWalk.i64_in (mm : Int) (by omega)
          have hEQ : (ys.length : Int) - 1 = (mm : Int) := by omega
          have hne : ((mm : Int) == (mm : Int)) = true := by simp
          clear hmm hF hRf
          have hRl' := hid hRl
          clear hRl
          go_wp2_with fail
          refine hF'.out.mono ?_
          rintro e W7 ⟨he, hb⟩
          have he' : e = .returned (.tuple #[.agg #[.int .i64 0, .int .i64 0], .bool false]) := he
          clear he
          subst he'
          obtain ⟨_, rfl, -, hbV⟩ := ref_new W7 0 0
          have o7 := hid (on_trans o6.out (on_trans hb hbV))
          have hX7 := hid (hX.out.on (on_trans hb hbV))
          clear hF' hb hbV
          go_wp2_with fail
          go_roundw
          case rel => exact ⟨j + 1, A6, c6, R, by rw [hmm'.out], by go_num, by rw [hmm'.out]; exact hX7.out, hRd.out, by rw [hmm'.out]; exact hcap, hnil6, by rw [hmm'.out]; have := hRl'.out; omega, o7.out⟩
          case measure => simp [intOf]; omega
        · have hi0 : ¬ (0 : Int) < (ys.length : Int) := by omega
          have hz : ys.length = 0 := by omega
          rw [hz]
          go_wp2_with fail
          go_ret
          exact ⟨rfl, hW1.out.trans (hBy.out.mono hW1.out.size)⟩


end Go.Proofs.Ytapegklffglnoaa
