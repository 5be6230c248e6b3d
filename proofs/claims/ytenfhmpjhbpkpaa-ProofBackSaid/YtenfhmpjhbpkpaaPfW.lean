/- The statement ProofBack: its walk. -/
import Derived.Test.YtenfhmpjhbpkpaaPfV
namespace Go.Proofs.Ytenfhmpjhbpkpaa
open Go.RowKit
open Go.Lib (strCells strCells_length strCells_oneCell)
attribute [local irreducible] Sha.compress Sha.blocks Sha.sha Sha.pad

/-- What follows a region, told once for all its orders. -/
def MidQ (R : Act → World → Prop) : Exit → Act → World → Prop
  | .normal, a, w => R a w
  | _, _, _ => False
theorem wp_region_mid {P : Program} {id : Nat} {ops : Array Oper} {b : Bool} {Q : Exit → Act → World → Prop} {a : Act} {w : World} (R : Act → Act → World → Prop)
    (h1 : (Code.region id ops b).wp P (MidQ (R a)) a w) (h2 : ∀ a' w', R a a' w' → Q .normal a' w') : (Code.region id ops b).wp P Q a w :=
  Code.wp_mono (fun e a' w' h => by cases e <;> first | exact h2 _ _ h | cases h) h1
def puts (a : Act) : List (Nat × Value) → Act
  | [] => a
  | (i, v) :: l => puts (a.put (some i) v) l

theorem own_lt0 {w : World} {B g : Nat} {e : TypeId} {c : Nat} {cs : List Value} {n : Nat} (h : w.ownsRow B e 32 (.slice (some ⟨g, 0, none⟩) n c) n cs) : g < w.heap.size := by
  rcases h.2 with ⟨hv, _⟩ | ⟨g', cap, cur, hv, _, hh, _⟩
  · cases hv
  · injection hv with h1
    injection h1 with h1
    injection h1 with h1
    subst h1
    exact (Array.getElem?_eq_some_iff.1 hh).1

set_option maxRecDepth 100000 in
set_option maxHeartbeats 16000000 in
theorem ProofBack_law {w : World} (A : Option Addr) (n c : Nat) (xs : List ByteArray) (hx : TextsIn w A n c xs) (i m : Int) :
    Calls Try.prog 9 #[.slice A n c, .int .i64 i, .int .i64 m] w fun e w' => e = .returned (.bool true) ∧ Below w.heap.size w w' := by
  have hs := hid hx.2.2.2.2
  have hnc := hx.2.1
  have hlen := hx.1.len
  have hX' := hid hx.1
  have hB0 := hid (Below.refl w.heap.size w)
  have hn13 : n * 16 ≤ 140737488351232 := hx.2.2.1
  clear hx
  go_enter Try.func9, Try.ntmps9
  go_wp2_with fail
  refine (awake10_any _).mono ?_
  rintro e W1 ⟨rfl, hb⟩
  have hB1 := hid (below_up hb hB0.out)
  clear hb hB0
  by_cases hn0 : n = 0
  · subst hn0
    go_wp2_with fail
    go_ret
    exact ⟨rfl, hB1.out⟩
  · by_cases hn60 : 60 < n
    · have h60 : (60 : Int) < (n : Int) := by omega
      have h0 : ((n : Int) == 0) = false := by rw [beq_eq_false_iff_ne]; omega
      go_wp2_with fail
      go_ret
      exact ⟨rfl, hB1.out⟩
    · skip
      have hn1 : 1 ≤ n := by omega
      have hn256 : n ≤ 256 := by omega
      obtain ⟨p, rfl⟩ : ∃ p, A = some p := by
        obtain ⟨p, e, -⟩ := hX'.out.get (show 0 < n by omega)
        exact ⟨p, e⟩
      obtain ⟨a, han, harem⟩ := u_rem i n (by omega) (by omega)
      obtain ⟨b, hbn, hbrem⟩ := u_rem m n (by omega) (by omega)
      obtain ⟨q, hq⟩ : ∃ q : Nat, b + 1 = q := ⟨_, rfl⟩
      have hqs : 1 + (b : Int) = (q : Int) := by omega
      have hun : IntKind.u64.wrap (n : Int) = (n : Int) := by
        have e : IntKind.u64.wrap (n : Int) = (n : Int) % 18446744073709551616 := rfl
        rw [e]; omega
      have hia := IntWalk.i64_in (a : Int) (by omega)
      have hib := IntWalk.i64_in (b : Int) (by omega)
      have hiq := IntWalk.i64_in (q : Int) (by omega)
      have hq1 : 1 ≤ q := by omega
      have hqn : q ≤ n := by omega
      obtain ⟨p', hpp, hpB, x, hxm, hxa, hcell⟩ := hX'.out.get han
      obtain rfl : p = p' := Option.some.inj hpp
      have hxs := hs.out x hxm
      obtain ⟨k1, k2⟩ := inc_ok xs a x hxa (by omega)
      obtain ⟨k3, k4⟩ := con_ok xs q hq1 (by omega) (by omega)
      rw [hlen] at k1 k2 k3 k4
      have hrl := rootH_len xs
      have hol := rootH_len (xs.take q)
      have hie : incE xs a = 0 := if_pos ⟨by omega, by omega, by omega⟩
      have hce : conE xs q = 0 := if_pos ⟨by omega, by omega, by omega⟩
      have hrr := hid (fun W (h : Texts W W.heap.size (some p) n xs) => rRoot_any n (some p) c xs W.heap.size W h (Nat.le_refl _) hnc (by omega) hs.out)
      have hro := hid (fun W (h : Texts W W.heap.size (some p) n xs) => rRoot_any q (some p) c (xs.take q) W.heap.size W (h.take hqn) (Nat.le_refl _) (by omega) (by omega) (fun s hm => hs.out s (List.mem_of_mem_take hm)))
      have hI := hid (fun W (h : Texts W W.heap.size (some p) n xs) => pInclusion_any (some p) n c xs a W h hnc hs.out)
      have hC := hid (fun W (h : Texts W W.heap.size (some p) n xs) => pConsistency_any (some p) n c xs q W h hnc hs.out)
      rw [hie] at hI
      rw [hce] at hC
      have hF := hid (fun W A1 l d1 (e : (incL xs a).length = l) (h : Hashs W W.heap.size A1 l (incL xs a)) (hc : l ≤ d1) => pCheckInc_any x a n A1 l d1 (incL xs a) (rootH xs) W hxs h hc hrl)
      have hG := hid (fun W A1 l d1 (h : Hashs W W.heap.size A1 l (incL xs a ++ [rootH xs])) (hc : l ≤ d1) => pCheckInc_any x a n A1 l d1 (incL xs a ++ [rootH xs]) (rootH xs) W hxs h hc hrl)
      have hJ := hid (fun W A1 l d1 (h : Hashs W W.heap.size A1 l (conL xs q)) (hc : l ≤ d1) (hl : l ≤ 10000000000000) => pCheckCon_any q n A1 l d1 (conL xs q) (rootH (xs.take q)) (rootH xs) W h hc hl hol hrl)
      have hO := hid (fun W A1 l d1 (h : Hashs W W.heap.size A1 l (conL xs q ++ [rootH xs])) (hc : l ≤ d1) (hl : l ≤ 10000000000000) => pCheckCon_any q n A1 l d1 (conL xs q ++ [rootH xs]) (rootH (xs.take q)) (rootH xs) W h hc hl hol hrl)
      rw [k1] at hF
      rw [k2] at hG
      rw [k3] at hJ
      rw [k4] at hO
      have hcr := hid (hash_cells _ hrl)
      have hco := hid (hash_cells _ hol)
      have hrl' := hid hrl
      have hPl := hid (incL_len xs a)
      have hQl := hid (conL_len xs q)
      unfold hv at hrr hro hF hG hJ hO
      obtain ⟨R, hR⟩ : ∃ R, rootH xs = R := ⟨_, rfl⟩
      obtain ⟨O, hOo⟩ : ∃ O, rootH (xs.take q) = O := ⟨_, rfl⟩
      rw [hR] at hrr hF hG hJ hO hcr hrl'
      rw [hOo] at hro hJ hO hco
      obtain ⟨P, hP⟩ : ∃ P, incL xs a = P := ⟨_, rfl⟩
      obtain ⟨Q, hQ⟩ : ∃ Q, conL xs q = Q := ⟨_, rfl⟩
      rw [hP] at hI hF hG hPl
      rw [hQ] at hC hJ hO hQl
      have hcells := hid (hashCells_one R)
      obtain ⟨cr, hcrr⟩ : ∃ cr, byteCells R = cr := ⟨_, rfl⟩
      obtain ⟨co, hcoo⟩ : ∃ co, byteCells O = co := ⟨_, rfl⟩
      rw [hcrr] at hrr hF hG hJ hO hcr hcells
      rw [hcoo] at hro hJ hO hco
      have hone := hid (show ∀ u ∈ cr, u.oneCell' = true from fun u hu => byteCells_one R u (by rw [hcrr]; exact hu))
      have hcl := hid (fun W (h : Below w.heap.size w W) => show W.cell? (p.add a) = some (.string x) from (h.cell (p := p.add a) (by rw [add_block]; exact hpB)).trans hcell)
      have hX1 := hid ((hX'.out.below hB1.out).more hB1.out.size)
      have ha0 : (0 : Int) ≤ (a : Int) := by omega
      have han' : (a : Int) < (n : Int) := by omega
      have hto : (a : Int).toNat = a := by omega
      have hq0 : (0 : Int) ≤ (q : Int) := by omega
      have hqc : (q : Int) ≤ (c : Int) := by omega
      have hqto : (q : Int).toNat = q := by omega
      have h60 : ¬ (60 : Int) < (n : Int) := by omega
      have h0 : ((n : Int) == 0) = false := by rw [beq_eq_false_iff_ne]; omega
      have hn0' : ¬ (n : Int) = 0 := by omega
      obtain ⟨i0, hi0, hz0, hz1, hz2⟩ := info_parts Try.infoHashD
      clear k1 k2 k3 k4 hrl hol hie hce hxa hxm hxs hpp hpB hcell hX' hs hq hR hOo hP hQ hcrr hcoo
      go_wp2_with fail
      have hb : Below W1.heap.size W1 W1.drew := (Below.refl _ _).drew
      have hB2 := hid (below_up hb hB1.out)
      have hX2 := hid ((hX1.out.below hb).more hb.size)
      clear hb hB1 hX1
      refine wp_region_held_drew (S := fun _ => True) (by kernel_rfl) (by exact True.intro) (fun hHeld => ?_)
      generalize W1.drew = W2 at *
      refine wpAnyH_take (i := 0) (v := .int .i64 i) rfl (by kernel_rfl) (by kernel_rfl) (by kernel_rfl) (fun _ _ _ h => h) (yieldsIf_move _ rfl rfl rfl) hHeld ?_
      simp only [ly1, ly2, ly3, Act.put, ly5, ly6, ly7]
      refine wpAnyH_take (i := 1) (v := .int .u64 (IntKind.u64.wrap i)) rfl (by kernel_rfl) (by kernel_rfl) (by kernel_rfl) (fun _ _ _ h => h) (.inl ⟨by kernel_rfl, fun w _ => by go_simp⟩) hHeld ?_
      simp only [ly1, ly2, ly3, Act.put, ly5, ly6, ly7]
      refine wpAnyH_take (i := 2) (v := .slice (some p) n c) rfl (by kernel_rfl) (by kernel_rfl) (by kernel_rfl) (fun _ _ _ h => h) (yieldsIf_move _ rfl rfl rfl) hHeld ?_
      simp only [ly1, ly2, ly3, Act.put, ly5, ly6, ly7]
      refine wpAnyH_take (i := 3) (v := .int .i64 (n : Int)) rfl (by kernel_rfl) (by kernel_rfl) (by kernel_rfl) (fun _ _ _ h => h) (.inl ⟨by kernel_rfl, fun w _ => by go_simp⟩) hHeld ?_
      simp only [ly1, ly2, ly3, Act.put, ly5, ly6, ly7]
      refine wpAnyH_take (i := 4) (v := .int .u64 (n : Int)) rfl (by kernel_rfl) (by kernel_rfl) (by kernel_rfl) (fun _ _ _ h => h) (.inl ⟨by kernel_rfl, fun w _ => by go_simp⟩) hHeld ?_
      simp only [ly1, ly2, ly3, Act.put, ly5, ly6, ly7]
      refine wpAnyH_take (i := 5) (v := .int .u64 (a : Int)) rfl (by kernel_rfl) (by kernel_rfl) (by kernel_rfl) (fun _ _ _ h => h) (.inl ⟨by kernel_rfl, fun w _ => by go_simp⟩) hHeld ?_
      simp only [ly1, ly2, ly3, Act.put, ly5, ly6, ly7]
      refine wpAnyH_take (i := 6) (v := .int .i64 (a : Int)) rfl (by kernel_rfl) (by kernel_rfl) (by kernel_rfl) (fun _ _ _ h => h) (.inl ⟨by kernel_rfl, fun w _ => by go_simp⟩) hHeld ?_
      simp only [ly1, ly2, ly3, Act.put, ly5, ly6, ly7]
      refine wpAnyH_take (i := 7) (v := .int .i64 m) rfl (by kernel_rfl) (by kernel_rfl) (by kernel_rfl) (fun _ _ _ h => h) (yieldsIf_move _ rfl rfl rfl) hHeld ?_
      simp only [ly1, ly2, ly3, Act.put, ly5, ly6, ly7]
      refine wpAnyH_take (i := 8) (v := .int .u64 (IntKind.u64.wrap m)) rfl (by kernel_rfl) (by kernel_rfl) (by kernel_rfl) (fun _ _ _ h => h) (.inl ⟨by kernel_rfl, fun w _ => by go_simp⟩) hHeld ?_
      simp only [ly1, ly2, ly3, Act.put, ly5, ly6, ly7]
      refine wpAnyH_take (i := 9) (v := .slice (some p) n c) rfl (by kernel_rfl) (by kernel_rfl) (by kernel_rfl) (fun _ _ _ h => h) (yieldsIf_move _ rfl rfl rfl) hHeld ?_
      simp only [ly1, ly2, ly3, Act.put, ly5, ly6, ly7]
      refine wpAnyH_take (i := 10) (v := .int .i64 (n : Int)) rfl (by kernel_rfl) (by kernel_rfl) (by kernel_rfl) (fun _ _ _ h => h) (.inl ⟨by kernel_rfl, fun w _ => by go_simp⟩) hHeld ?_
      simp only [ly1, ly2, ly3, Act.put, ly5, ly6, ly7]
      refine wpAnyH_take (i := 11) (v := .int .u64 (n : Int)) rfl (by kernel_rfl) (by kernel_rfl) (by kernel_rfl) (fun _ _ _ h => h) (.inl ⟨by kernel_rfl, fun w _ => by go_simp⟩) hHeld ?_
      simp only [ly1, ly2, ly3, Act.put, ly5, ly6, ly7]
      refine wpAnyH_take (i := 12) (v := .int .u64 (b : Int)) rfl (by kernel_rfl) (by kernel_rfl) (by kernel_rfl) (fun _ _ _ h => h) (.inl ⟨by kernel_rfl, fun w _ => by go_simp⟩) hHeld ?_
      simp only [ly1, ly2, ly3, Act.put, ly5, ly6, ly7]
      refine wpAnyH_take (i := 13) (v := .int .i64 (b : Int)) rfl (by kernel_rfl) (by kernel_rfl) (by kernel_rfl) (fun _ _ _ h => h) (.inl ⟨by kernel_rfl, fun w _ => by go_simp⟩) hHeld ?_
      simp only [ly1, ly2, ly3, Act.put, ly5, ly6, ly7]
      refine wpAnyH_take (i := 14) (v := .int .i64 (q : Int)) rfl (by kernel_rfl) (by kernel_rfl) (by kernel_rfl) (fun _ _ _ h => h) (.inl ⟨by kernel_rfl, fun w _ => by go_simp⟩) hHeld ?_
      simp only [ly1, ly2, ly3, Act.put, ly5, ly6, ly7]
      refine wpAnyH_take (i := 15) (v := .int .i64 (a : Int)) rfl (by kernel_rfl) (by kernel_rfl) (by kernel_rfl) (fun _ _ _ h => h) (yieldsIf_assign _ rfl rfl rfl) hHeld ?_
      simp only [ly1, ly2, ly3, Act.put, ly5, ly6, ly7]
      refine wpAnyH_take (i := 16) (v := .int .i64 (q : Int)) rfl (by kernel_rfl) (by kernel_rfl) (by kernel_rfl) (fun _ _ _ h => h) (yieldsIf_assign _ rfl rfl rfl) hHeld ?_
      simp only [ly1, ly2, ly3, Act.put, ly5, ly6, ly7]
      refine wpAnyH_done (by kernel_rfl) ?_ _
      clear harem hbrem hun hia hib hiq hqs
      go_wp2_with fail
      refine (hrr.out _ hX2.out).mono ?_
      rintro e W3 ⟨rfl, hb⟩
      have hB3 := hid (below_up hb hB2.out)
      have hX3 := hid ((hX2.out.below hb).more hb.size)
      clear hb hB2 hX2
      try (rename_i hK1; refine hK1 _ _ ?_; clear hK1)
      go_wp2_with (first
        | ((with_reducible refine at_slot (some 9) ?_); refine wpList_run rfl (.pointer (some ⟨W3.heap.size, 0, none⟩)) (W3.alloc (.cells z32 28)) (by kernel_rfl) ?_)
        | ((with_reducible refine at_slot none ?_); refine wpList_store_mid rfl 28 (.tmp 9) (.tmp 47) rfl W3.heap.size 0 cr.toArray rfl rfl (by exact hcr.out.there W3) (by exact hcr.out.size) (by exact hcr.out.one) ?_; generalize hW : World.setCells _ _ _ _ = W4; obtain ⟨hN, hb⟩ := hcr.out.new hW; have hB4 := hid (below_up hb hB3.out); have hX4 := hid ((hX3.out.below hb).more hb.size); have hR4 := hid hN; clear hb hB3 hX3 hN; clear hW)
        | fail)
      refine (hI.out _ hX4.out).mono ?_
      rintro e W5 ⟨A1, d1, rfl, hN, hd1, hnil, hl1, hb⟩
      have hB5 := hid (below_up hb hB4.out)
      have hX5 := hid ((hX4.out.below hb).more hb.size)
      have hR5 := hid (hR4.out.below hb hR4.out.lt)
      have hP5 := hid hN
      clear hb hB4 hX4 hR4 hN
      have hPe := hid (rfl : P.length = P.length)
      obtain ⟨l1, hl1e⟩ : ∃ l, P.length = l := ⟨_, rfl⟩
      rw [hl1e] at hP5 hd1 hl1 ⊢
      go_wp2_with fail
      have hb : Below W5.heap.size W5 W5.drew := (Below.refl _ _).drew
      have hB6 := hid (below_up hb hB5.out)
      have hX6 := hid ((hX5.out.below hb).more hb.size)
      have hR6 := hid (hR5.out.below hb hR5.out.lt)
      have hP6 := hid ((hP5.out.below hb).more hb.size)
      clear hb hB5 hX5 hR5 hP5
      refine wp_region_held_drew (S := fun W => Holds W W3.heap.size 28 cr ∧ W.cell? (p.add a) = some (.string x)) (by kernel_rfl) (by exact ⟨hR6.out, hcl.out _ hB6.out⟩) (fun hHeld => ?_)
      generalize W5.drew = W6 at *
      refine wpAnyH_take (i := 0) (v := .slice (some p) n c) rfl (by kernel_rfl) (by kernel_rfl) (by kernel_rfl) (fun _ _ _ h => h) (yieldsIf_move _ rfl rfl rfl) hHeld ?_
      simp only [ly1, ly2, ly3, Act.put, ly5, ly6, ly7]
      refine wpAnyH_take (i := 1) (v := .int .i64 (a : Int)) rfl (by kernel_rfl) (by kernel_rfl) (by kernel_rfl) (fun _ _ _ h => h) (yieldsIf_move _ rfl rfl rfl) hHeld ?_
      simp only [ly1, ly2, ly3, Act.put, ly5, ly6, ly7]
      refine wpAnyH_take (i := 2) (v := .pointer (some (p.add a))) rfl (by kernel_rfl) (by kernel_rfl) (by kernel_rfl) (fun _ _ _ h => h) (.inl ⟨by kernel_rfl, fun w _ => by go_simp⟩) hHeld ?_
      simp only [ly1, ly2, ly3, Act.put, ly5, ly6, ly7]
      refine wpAnyH_take (i := 3) (v := .string x) rfl (by kernel_rfl) (by kernel_rfl) (by kernel_rfl) (fun _ _ _ h => h) (.inl ⟨by kernel_rfl, fun w h => by have hc := h.2; go_simp⟩) hHeld ?_
      simp only [ly1, ly2, ly3, Act.put, ly5, ly6, ly7]
      refine wpAnyH_take (i := 4) (v := .int .i64 (a : Int)) rfl (by kernel_rfl) (by kernel_rfl) (by kernel_rfl) (fun _ _ _ h => h) (yieldsIf_move _ rfl rfl rfl) hHeld ?_
      simp only [ly1, ly2, ly3, Act.put, ly5, ly6, ly7]
      refine wpAnyH_take (i := 5) (v := .slice (some p) n c) rfl (by kernel_rfl) (by kernel_rfl) (by kernel_rfl) (fun _ _ _ h => h) (yieldsIf_move _ rfl rfl rfl) hHeld ?_
      simp only [ly1, ly2, ly3, Act.put, ly5, ly6, ly7]
      refine wpAnyH_take (i := 6) (v := .int .i64 (n : Int)) rfl (by kernel_rfl) (by kernel_rfl) (by kernel_rfl) (fun _ _ _ h => h) (.inl ⟨by kernel_rfl, fun w _ => by go_simp⟩) hHeld ?_
      simp only [ly1, ly2, ly3, Act.put, ly5, ly6, ly7]
      refine wpAnyH_take (i := 7) (v := .slice A1 l1 d1) rfl (by kernel_rfl) (by kernel_rfl) (by kernel_rfl) (fun _ _ _ h => h) (yieldsIf_move _ rfl rfl rfl) hHeld ?_
      simp only [ly1, ly2, ly3, Act.put, ly5, ly6, ly7]
      refine wpAnyH_take (i := 8) (v := .agg cr.toArray) rfl (by kernel_rfl) (by kernel_rfl) (by kernel_rfl) (fun _ _ _ h => h) (yieldsIf_load_mid (by kernel_rfl) _ _ rfl _ _ rfl _ _ (fun W h => h_all h.1) Try.underlying28 rfl (by exact hcr.out.size')) hHeld ?_
      simp only [ly1, ly2, ly3, Act.put, ly5, ly6, ly7]
      refine wpAnyH_ready (rs := [9]) (by kernel_rfl) (by simp) (AllReadyH.cons rfl (fun K hK => ?_) AllReadyH.nil)
      have hK' := hid hK
      clear hK
      rw [if_pos (by kernel_rfl)]
      simp only [ly1, ly2, ly3]
      go_simp
      refine (hF.out _ _ _ _ hl1e hP6.out hd1).mono ?_
      rintro e W7 ⟨rfl, hb⟩
      have hB7 := hid (below_up hb hB6.out)
      have hX7 := hid ((hX6.out.below hb).more hb.size)
      have hR7 := hid (hR6.out.below hb hR6.out.lt)
      have hP7 := hid ((hP6.out.below hb).more hb.size)
      clear hb hB6 hX6 hR6 hP6
      refine hK'.out _ _ (by exact ⟨hR7.out, hcl.out _ hB7.out⟩) (fun hHeld => ?_)
      clear hK' K
      refine wpAnyH_take (i := 10) (v := .int .i64 0) rfl (by kernel_rfl) (by kernel_rfl) (by kernel_rfl) (fun _ _ _ h => h) (yieldsIf_assign _ rfl rfl rfl) hHeld ?_
      simp only [ly1, ly2, ly3, Act.put, ly5, ly6, ly7]
      refine wpAnyH_done (by kernel_rfl) ?_ _
      go_wp2_with fail
      refine wp_region_mid (fun a a' W' => ∃ v0 v2 v4 A6 c6, a' = puts a [(64, v0), (65, .slice A1 l1 d1), (66, v2), (67, .agg cr.toArray), (68, v4), (69, .slice A6 (l1 + 1) c6), (13, .slice A6 (l1 + 1) c6)] ∧ Hashs W' W'.heap.size A6 (l1 + 1) (P ++ [R]) ∧ l1 + 1 ≤ c6 ∧ Below W7.heap.size W7 W') ?_ ?_
      · skip
        have hb_0 := hid ((Below.refl W7.heap.size W7).drew)
        have hRs := hid hR7.out
        have hLs := hid hP7.out
        have hR_ := hid (hRs.out.below hb_0.out hRs.out.lt)
        refine wp_region_held_drew (S := fun W => Holds W W3.heap.size 28 cr) (by kernel_rfl) (by exact hR_.out) (fun hHeld => ?_)
        generalize W7.drew = V0 at *
        refine wpAnyH_take (i := 1) (v := .slice A1 l1 d1) rfl (by kernel_rfl) (by kernel_rfl) (by kernel_rfl) (fun _ _ _ h => h) (yieldsIf_move _ rfl rfl rfl) hHeld ?_
        simp only [ly1, ly2, ly3, Act.put, ly5, ly6, ly7]
        refine wpAnyH_take (i := 3) (v := .agg cr.toArray) rfl (by kernel_rfl) (by kernel_rfl) (by kernel_rfl) (fun _ _ _ h => h) (yieldsIf_load_mid (by kernel_rfl) _ _ rfl _ _ rfl _ _ (fun W h => h_all h) Try.underlying28 rfl (by exact hcr.out.size')) hHeld ?_
        simp only [ly1, ly2, ly3, Act.put, ly5, ly6, ly7]
        refine wpAnyH_ready (rs := [0, 4]) (by kernel_rfl) (by simp) (AllReadyH.cons rfl (fun K hK => ?_) (AllReadyH.cons rfl (fun K hK => ?_) AllReadyH.nil))
        · skip
          have hK' := hid hK
          clear hK
          rw [if_pos (by kernel_rfl)]
          simp only [ly1, ly2, ly3]
          obtain ⟨g0, hg0⟩ : ∃ g, g = V0.heap.size := ⟨_, rfl⟩
          refine wp_run (.slice (some ⟨g0, 0, none⟩) 0 0) (V0.alloc (.cells #[] 28)) (by rw [hg0]; kernel_rfl) ?_
          have hge0 : W7.heap.size ≤ g0 := by rw [hg0]; exact hb_0.out.size
          have hrow := hid (show (V0.alloc (.cells #[] 28)).ownsRow W7.heap.size 28 32 (.slice (some ⟨g0, 0, none⟩) 0 0) 0 [] from ⟨rfl, .inr ⟨g0, 0, #[], rfl, hge0, (by rw [hg0]; exact Holds.new V0 _ _), Nat.le_refl _, Nat.zero_le _, rfl, rfl⟩⟩)
          have hb_1 := hid (hb_0.out.alloc hb_0.out.size (.cells #[] 28))
          generalize V0.alloc (.cells #[] 28) = V1 at *
          clear hg0 hb_0
          have hR_ := hid (hRs.out.below hb_1.out hRs.out.lt)
          refine hK'.out _ _ (by exact hR_.out) (fun hHeld => ?_)
          clear hK' K
          refine wpAnyH_ready (rs := [2, 4]) (by kernel_rfl) (by simp) (AllReadyH.cons rfl (fun K hK => ?_) (AllReadyH.cons rfl (fun K hK => ?_) AllReadyH.nil))
          · skip
            have hK' := hid hK
            clear hK
            rw [if_pos (by kernel_rfl)]
            simp only [ly1, ly2, ly3]
            refine wp_appends (.tmp 64) (.tmp 65) 41 28 rfl W7.heap.size i0 _ 32 32 Try.underlying41 hi0 hz0 hz1 hz2 (by decide) (by decide) (some ⟨g0, 0, none⟩) 0 0 [] W7.heap.size A1 l1 d1 (hashCells P) rfl rfl (by exact hnil) (hashCells_each _) (by omega) (by omega) (by exact hrow.out) (by exact (hLs.out.below hb_1.out).1) (by exact hb_1.out.size) ?_
            intro A5 c5 V2 hrow5 hb5 hg5
            rw [Nat.zero_add, List.nil_append] at hrow5
            rw [Nat.zero_add l1]
            have hrow5' := hid hrow5
            have hb_2 := hid (hb_1.out.trans hb5)
            clear hrow5 hb5 hg5 hb_1
            have hR_ := hid (hRs.out.below hb_2.out hRs.out.lt)
            refine hK'.out _ _ (by exact hR_.out) (fun hHeld => ?_)
            clear hK' K
            refine wpAnyH_ready (rs := [4]) (by kernel_rfl) (by simp) (AllReadyH.cons rfl (fun K hK => ?_) AllReadyH.nil)
            have hK' := hid hK
            clear hK
            rw [if_pos (by kernel_rfl)]
            simp only [ly1, ly2, ly3]
            obtain ⟨g4, hg4⟩ : ∃ g, g = V2.heap.size := ⟨_, rfl⟩
            refine wp_buildSlice_one 41 28 (.tmp 67) rfl i0 _ Try.underlying41 hi0 hz0 cr.toArray rfl (by rw [hz1, List.size_toArray, hcr.out.len]) (by rw [List.size_toArray, hcr.out.len]; decide) (by rw [List.size_toArray, hcr.out.len]; decide) ?_
            have hO3 := hid (show Holds (V2.alloc (.cells cr.toArray 28)) g4 28 cr from by rw [hg4]; exact Holds.new V2 _ _)
            have hb_3 := hid (hb_2.out.alloc hb_2.out.size (.cells cr.toArray 28))
            have hge4 : W7.heap.size ≤ g4 := by rw [hg4]; exact hb_2.out.size
            have hrow5'2 := hid (hrow5'.out.alloc (.cells cr.toArray 28))
            rw [← hg4]
            generalize V2.alloc (.cells cr.toArray 28) = V3 at *
            clear hg4 hb_2
            have hR_ := hid (hRs.out.below hb_3.out hRs.out.lt)
            refine hK'.out _ _ (by exact hR_.out) (fun hHeld => ?_)
            clear hK' K
            refine wpAnyH_ready (rs := [5]) (by kernel_rfl) (by simp) (AllReadyH.cons rfl (fun K hK => ?_) AllReadyH.nil)
            have hK' := hid hK
            clear hK
            rw [if_pos (by kernel_rfl)]
            simp only [ly1, ly2, ly3]
            refine wp_appends (.tmp 66) (.tmp 68) 41 28 rfl W7.heap.size i0 _ 32 32 Try.underlying41 hi0 hz0 hz1 hz2 (by decide) (by decide) A5 l1 c5 (hashCells P) (g4 + 1) (some ⟨g4, 0, none⟩) 1 1 cr rfl rfl (fun h => by cases h) (by exact hone.out) (by omega) (by omega) (by exact hrow5'2.out) (by exact At.of_holds hO3.out (by rw [hcr.out.len]) (Nat.lt_succ_self _)) (by exact hb_3.out.size) ?_
            intro A6 c6 V4 hrow6 hb6 hg6
            have hrow6' := hid hrow6
            have hb_4 := hid (hb_3.out.trans hb6)
            clear hrow6 hb6 hg6 hb_3
            have hR_ := hid (hRs.out.below hb_4.out hRs.out.lt)
            refine hK'.out _ _ (by exact hR_.out) (fun hHeld => ?_)
            clear hK' K
            refine wpAnyH_take (i := 6) (v := .slice A6 (l1 + 1) c6) rfl (by kernel_rfl) (by kernel_rfl) (by kernel_rfl) (fun _ _ _ h => h) (yieldsIf_assign _ rfl rfl rfl) hHeld ?_
            simp only [ly1, ly2, ly3, Act.put, ly5, ly6, ly7]
            refine wpAnyH_done (by kernel_rfl) ?_ _
            have hcap := own_cap hrow6'.out
            have hH6 := Hashs.of_own (w := V4) (A := A6) (hs := P ++ [R]) (by rw [hashCells_append, hcells.out]; exact hrow6'.out) (fun y hy => by rcases List.mem_append.1 hy with h | h; exact hPl.out y h; rw [List.mem_singleton.1 h]; exact hrl'.out)
            exact ⟨.slice (some ⟨g0, 0, none⟩) 0 0, .slice A5 l1 c5, .slice (some ⟨g4, 0, none⟩) 1 1, A6, c6, by simp only [puts, Act.put, List.setIfInBounds_toArray, List.set_cons_zero, List.set_cons_succ], hH6, hcap, hb_4.out⟩
          · skip
            have hK' := hid hK
            clear hK
            rw [if_pos (by kernel_rfl)]
            simp only [ly1, ly2, ly3]
            obtain ⟨g4, hg4⟩ : ∃ g, g = V1.heap.size := ⟨_, rfl⟩
            refine wp_buildSlice_one 41 28 (.tmp 67) rfl i0 _ Try.underlying41 hi0 hz0 cr.toArray rfl (by rw [hz1, List.size_toArray, hcr.out.len]) (by rw [List.size_toArray, hcr.out.len]; decide) (by rw [List.size_toArray, hcr.out.len]; decide) ?_
            have hO2 := hid (show Holds (V1.alloc (.cells cr.toArray 28)) g4 28 cr from by rw [hg4]; exact Holds.new V1 _ _)
            have hb_2 := hid (hb_1.out.alloc hb_1.out.size (.cells cr.toArray 28))
            have hge4 : W7.heap.size ≤ g4 := by rw [hg4]; exact hb_1.out.size
            have hrow2 := hid (hrow.out.alloc (.cells cr.toArray 28))
            have hne : g4 ≠ g0 := by have h1 := own_lt0 hrow.out; omega
            rw [← hg4]
            generalize V1.alloc (.cells cr.toArray 28) = V2 at *
            clear hg4 hb_1
            have hR_ := hid (hRs.out.below hb_2.out hRs.out.lt)
            refine hK'.out _ _ (by exact hR_.out) (fun hHeld => ?_)
            clear hK' K
            refine wpAnyH_ready (rs := [2]) (by kernel_rfl) (by simp) (AllReadyH.cons rfl (fun K hK => ?_) AllReadyH.nil)
            have hK' := hid hK
            clear hK
            rw [if_pos (by kernel_rfl)]
            simp only [ly1, ly2, ly3]
            refine wp_appends (.tmp 64) (.tmp 65) 41 28 rfl W7.heap.size i0 _ 32 32 Try.underlying41 hi0 hz0 hz1 hz2 (by decide) (by decide) (some ⟨g0, 0, none⟩) 0 0 [] W7.heap.size A1 l1 d1 (hashCells P) rfl rfl (by exact hnil) (hashCells_each _) (by omega) (by omega) (by exact hrow2.out) (by exact (hLs.out.below hb_2.out).1) (by exact hb_2.out.size) ?_
            intro A5 c5 V3 hrow5 hb5 hg5
            rw [Nat.zero_add, List.nil_append] at hrow5
            rw [Nat.zero_add l1]
            have hrow5' := hid hrow5
            have hb_3 := hid (hb_2.out.trans hb5)
            have hO3 := hid (hO2.out.grown hg5 (by intro h; exact hne (Option.some.inj h)))
            clear hrow5 hb5 hg5 hb_2 hO2
            have hR_ := hid (hRs.out.below hb_3.out hRs.out.lt)
            refine hK'.out _ _ (by exact hR_.out) (fun hHeld => ?_)
            clear hK' K
            refine wpAnyH_ready (rs := [5]) (by kernel_rfl) (by simp) (AllReadyH.cons rfl (fun K hK => ?_) AllReadyH.nil)
            have hK' := hid hK
            clear hK
            rw [if_pos (by kernel_rfl)]
            simp only [ly1, ly2, ly3]
            refine wp_appends (.tmp 66) (.tmp 68) 41 28 rfl W7.heap.size i0 _ 32 32 Try.underlying41 hi0 hz0 hz1 hz2 (by decide) (by decide) A5 l1 c5 (hashCells P) (g4 + 1) (some ⟨g4, 0, none⟩) 1 1 cr rfl rfl (fun h => by cases h) (by exact hone.out) (by omega) (by omega) (by exact hrow5'.out) (by exact At.of_holds hO3.out (by rw [hcr.out.len]) (Nat.lt_succ_self _)) (by exact hb_3.out.size) ?_
            intro A6 c6 V4 hrow6 hb6 hg6
            have hrow6' := hid hrow6
            have hb_4 := hid (hb_3.out.trans hb6)
            clear hrow6 hb6 hg6 hb_3
            have hR_ := hid (hRs.out.below hb_4.out hRs.out.lt)
            refine hK'.out _ _ (by exact hR_.out) (fun hHeld => ?_)
            clear hK' K
            refine wpAnyH_take (i := 6) (v := .slice A6 (l1 + 1) c6) rfl (by kernel_rfl) (by kernel_rfl) (by kernel_rfl) (fun _ _ _ h => h) (yieldsIf_assign _ rfl rfl rfl) hHeld ?_
            simp only [ly1, ly2, ly3, Act.put, ly5, ly6, ly7]
            refine wpAnyH_done (by kernel_rfl) ?_ _
            have hcap := own_cap hrow6'.out
            have hH6 := Hashs.of_own (w := V4) (A := A6) (hs := P ++ [R]) (by rw [hashCells_append, hcells.out]; exact hrow6'.out) (fun y hy => by rcases List.mem_append.1 hy with h | h; exact hPl.out y h; rw [List.mem_singleton.1 h]; exact hrl'.out)
            exact ⟨.slice (some ⟨g0, 0, none⟩) 0 0, .slice A5 l1 c5, .slice (some ⟨g4, 0, none⟩) 1 1, A6, c6, by simp only [puts, Act.put, List.setIfInBounds_toArray, List.set_cons_zero, List.set_cons_succ], hH6, hcap, hb_4.out⟩
        · skip
          have hK' := hid hK
          clear hK
          rw [if_pos (by kernel_rfl)]
          simp only [ly1, ly2, ly3]
          obtain ⟨g4, hg4⟩ : ∃ g, g = V0.heap.size := ⟨_, rfl⟩
          refine wp_buildSlice_one 41 28 (.tmp 67) rfl i0 _ Try.underlying41 hi0 hz0 cr.toArray rfl (by rw [hz1, List.size_toArray, hcr.out.len]) (by rw [List.size_toArray, hcr.out.len]; decide) (by rw [List.size_toArray, hcr.out.len]; decide) ?_
          have hO1 := hid (show Holds (V0.alloc (.cells cr.toArray 28)) g4 28 cr from by rw [hg4]; exact Holds.new V0 _ _)
          have hb_1 := hid (hb_0.out.alloc hb_0.out.size (.cells cr.toArray 28))
          have hge4 : W7.heap.size ≤ g4 := by rw [hg4]; exact hb_0.out.size
          rw [← hg4]
          generalize V0.alloc (.cells cr.toArray 28) = V1 at *
          clear hg4 hb_0
          have hR_ := hid (hRs.out.below hb_1.out hRs.out.lt)
          refine hK'.out _ _ (by exact hR_.out) (fun hHeld => ?_)
          clear hK' K
          refine wpAnyH_ready (rs := [0]) (by kernel_rfl) (by simp) (AllReadyH.cons rfl (fun K hK => ?_) AllReadyH.nil)
          have hK' := hid hK
          clear hK
          rw [if_pos (by kernel_rfl)]
          simp only [ly1, ly2, ly3]
          obtain ⟨g0, hg0⟩ : ∃ g, g = V1.heap.size := ⟨_, rfl⟩
          refine wp_run (.slice (some ⟨g0, 0, none⟩) 0 0) (V1.alloc (.cells #[] 28)) (by rw [hg0]; kernel_rfl) ?_
          have hge0 : W7.heap.size ≤ g0 := by rw [hg0]; exact hb_1.out.size
          have hrow := hid (show (V1.alloc (.cells #[] 28)).ownsRow W7.heap.size 28 32 (.slice (some ⟨g0, 0, none⟩) 0 0) 0 [] from ⟨rfl, .inr ⟨g0, 0, #[], rfl, hge0, (by rw [hg0]; exact Holds.new V1 _ _), Nat.le_refl _, Nat.zero_le _, rfl, rfl⟩⟩)
          have hb_2 := hid (hb_1.out.alloc hb_1.out.size (.cells #[] 28))
          have hO2 := hid (hO1.out.alloc (.cells #[] 28))
          have hne : g4 ≠ g0 := by have := hO1.out.lt; omega
          generalize V1.alloc (.cells #[] 28) = V2 at *
          clear hg0 hb_1 hO1
          have hR_ := hid (hRs.out.below hb_2.out hRs.out.lt)
          refine hK'.out _ _ (by exact hR_.out) (fun hHeld => ?_)
          clear hK' K
          refine wpAnyH_ready (rs := [2]) (by kernel_rfl) (by simp) (AllReadyH.cons rfl (fun K hK => ?_) AllReadyH.nil)
          have hK' := hid hK
          clear hK
          rw [if_pos (by kernel_rfl)]
          simp only [ly1, ly2, ly3]
          refine wp_appends (.tmp 64) (.tmp 65) 41 28 rfl W7.heap.size i0 _ 32 32 Try.underlying41 hi0 hz0 hz1 hz2 (by decide) (by decide) (some ⟨g0, 0, none⟩) 0 0 [] W7.heap.size A1 l1 d1 (hashCells P) rfl rfl (by exact hnil) (hashCells_each _) (by omega) (by omega) (by exact hrow.out) (by exact (hLs.out.below hb_2.out).1) (by exact hb_2.out.size) ?_
          intro A5 c5 V3 hrow5 hb5 hg5
          rw [Nat.zero_add, List.nil_append] at hrow5
          rw [Nat.zero_add l1]
          have hrow5' := hid hrow5
          have hb_3 := hid (hb_2.out.trans hb5)
          have hO3 := hid (hO2.out.grown hg5 (by intro h; exact hne (Option.some.inj h)))
          clear hrow5 hb5 hg5 hb_2 hO2
          have hR_ := hid (hRs.out.below hb_3.out hRs.out.lt)
          refine hK'.out _ _ (by exact hR_.out) (fun hHeld => ?_)
          clear hK' K
          refine wpAnyH_ready (rs := [5]) (by kernel_rfl) (by simp) (AllReadyH.cons rfl (fun K hK => ?_) AllReadyH.nil)
          have hK' := hid hK
          clear hK
          rw [if_pos (by kernel_rfl)]
          simp only [ly1, ly2, ly3]
          refine wp_appends (.tmp 66) (.tmp 68) 41 28 rfl W7.heap.size i0 _ 32 32 Try.underlying41 hi0 hz0 hz1 hz2 (by decide) (by decide) A5 l1 c5 (hashCells P) (g4 + 1) (some ⟨g4, 0, none⟩) 1 1 cr rfl rfl (fun h => by cases h) (by exact hone.out) (by omega) (by omega) (by exact hrow5'.out) (by exact At.of_holds hO3.out (by rw [hcr.out.len]) (Nat.lt_succ_self _)) (by exact hb_3.out.size) ?_
          intro A6 c6 V4 hrow6 hb6 hg6
          have hrow6' := hid hrow6
          have hb_4 := hid (hb_3.out.trans hb6)
          clear hrow6 hb6 hg6 hb_3
          have hR_ := hid (hRs.out.below hb_4.out hRs.out.lt)
          refine hK'.out _ _ (by exact hR_.out) (fun hHeld => ?_)
          clear hK' K
          refine wpAnyH_take (i := 6) (v := .slice A6 (l1 + 1) c6) rfl (by kernel_rfl) (by kernel_rfl) (by kernel_rfl) (fun _ _ _ h => h) (yieldsIf_assign _ rfl rfl rfl) hHeld ?_
          simp only [ly1, ly2, ly3, Act.put, ly5, ly6, ly7]
          refine wpAnyH_done (by kernel_rfl) ?_ _
          have hcap := own_cap hrow6'.out
          have hH6 := Hashs.of_own (w := V4) (A := A6) (hs := P ++ [R]) (by rw [hashCells_append, hcells.out]; exact hrow6'.out) (fun y hy => by rcases List.mem_append.1 hy with h | h; exact hPl.out y h; rw [List.mem_singleton.1 h]; exact hrl'.out)
          exact ⟨.slice (some ⟨g0, 0, none⟩) 0 0, .slice A5 l1 c5, .slice (some ⟨g4, 0, none⟩) 1 1, A6, c6, by simp only [puts, Act.put, List.setIfInBounds_toArray, List.set_cons_zero, List.set_cons_succ], hH6, hcap, hb_4.out⟩
      · skip
        rintro a' W8 ⟨v0, v2, v4, A6, c6, rfl, hN, hc6, hb⟩
        simp only [puts, Act.put, List.setIfInBounds_toArray, List.set_cons_zero, List.set_cons_succ]
        have hB8 := hid (below_up hb hB7.out)
        have hX8 := hid ((hX7.out.below hb).more hb.size)
        have hR8 := hid (hR7.out.below hb hR7.out.lt)
        have hP8 := hid ((hP7.out.below hb).more hb.size)
        have hL8 := hid hN
        clear hb hB7 hX7 hR7 hP7 hN
        clear hnil
        go_wp2_with fail
        have hb : Below W8.heap.size W8 W8.drew := (Below.refl _ _).drew
        have hB9 := hid (below_up hb hB8.out)
        have hX9 := hid ((hX8.out.below hb).more hb.size)
        have hR9 := hid (hR8.out.below hb hR8.out.lt)
        have hP9 := hid ((hP8.out.below hb).more hb.size)
        have hL9 := hid ((hL8.out.below hb).more hb.size)
        clear hb hB8 hX8 hR8 hP8 hL8
        refine wp_region_held_drew (S := fun W => Holds W W3.heap.size 28 cr ∧ W.cell? (p.add a) = some (.string x)) (by kernel_rfl) (by exact ⟨hR9.out, hcl.out _ hB9.out⟩) (fun hHeld => ?_)
        generalize W8.drew = W9 at *
        refine wpAnyH_take (i := 0) (v := .slice (some p) n c) rfl (by kernel_rfl) (by kernel_rfl) (by kernel_rfl) (fun _ _ _ h => h) (yieldsIf_move _ rfl rfl rfl) hHeld ?_
        simp only [ly1, ly2, ly3, Act.put, ly5, ly6, ly7]
        refine wpAnyH_take (i := 1) (v := .int .i64 (a : Int)) rfl (by kernel_rfl) (by kernel_rfl) (by kernel_rfl) (fun _ _ _ h => h) (yieldsIf_move _ rfl rfl rfl) hHeld ?_
        simp only [ly1, ly2, ly3, Act.put, ly5, ly6, ly7]
        refine wpAnyH_take (i := 2) (v := .pointer (some (p.add a))) rfl (by kernel_rfl) (by kernel_rfl) (by kernel_rfl) (fun _ _ _ h => h) (.inl ⟨by kernel_rfl, fun w _ => by go_simp⟩) hHeld ?_
        simp only [ly1, ly2, ly3, Act.put, ly5, ly6, ly7]
        refine wpAnyH_take (i := 3) (v := .string x) rfl (by kernel_rfl) (by kernel_rfl) (by kernel_rfl) (fun _ _ _ h => h) (.inl ⟨by kernel_rfl, fun w h => by have hc := h.2; go_simp⟩) hHeld ?_
        simp only [ly1, ly2, ly3, Act.put, ly5, ly6, ly7]
        refine wpAnyH_take (i := 4) (v := .int .i64 (a : Int)) rfl (by kernel_rfl) (by kernel_rfl) (by kernel_rfl) (fun _ _ _ h => h) (yieldsIf_move _ rfl rfl rfl) hHeld ?_
        simp only [ly1, ly2, ly3, Act.put, ly5, ly6, ly7]
        refine wpAnyH_take (i := 5) (v := .slice (some p) n c) rfl (by kernel_rfl) (by kernel_rfl) (by kernel_rfl) (fun _ _ _ h => h) (yieldsIf_move _ rfl rfl rfl) hHeld ?_
        simp only [ly1, ly2, ly3, Act.put, ly5, ly6, ly7]
        refine wpAnyH_take (i := 6) (v := .int .i64 (n : Int)) rfl (by kernel_rfl) (by kernel_rfl) (by kernel_rfl) (fun _ _ _ h => h) (.inl ⟨by kernel_rfl, fun w _ => by go_simp⟩) hHeld ?_
        simp only [ly1, ly2, ly3, Act.put, ly5, ly6, ly7]
        refine wpAnyH_take (i := 7) (v := .slice A6 (l1 + 1) c6) rfl (by kernel_rfl) (by kernel_rfl) (by kernel_rfl) (fun _ _ _ h => h) (yieldsIf_move _ rfl rfl rfl) hHeld ?_
        simp only [ly1, ly2, ly3, Act.put, ly5, ly6, ly7]
        refine wpAnyH_take (i := 8) (v := .agg cr.toArray) rfl (by kernel_rfl) (by kernel_rfl) (by kernel_rfl) (fun _ _ _ h => h) (yieldsIf_load_mid (by kernel_rfl) _ _ rfl _ _ rfl _ _ (fun W h => h_all h.1) Try.underlying28 rfl (by exact hcr.out.size')) hHeld ?_
        simp only [ly1, ly2, ly3, Act.put, ly5, ly6, ly7]
        refine wpAnyH_ready (rs := [9]) (by kernel_rfl) (by simp) (AllReadyH.cons rfl (fun K hK => ?_) AllReadyH.nil)
        have hK' := hid hK
        clear hK
        rw [if_pos (by kernel_rfl)]
        simp only [ly1, ly2, ly3]
        go_simp
        refine (hG.out _ _ _ _ hL9.out hc6).mono ?_
        rintro e W10 ⟨rfl, hb⟩
        have hB10 := hid (below_up hb hB9.out)
        have hX10 := hid ((hX9.out.below hb).more hb.size)
        have hR10 := hid (hR9.out.below hb hR9.out.lt)
        have hP10 := hid ((hP9.out.below hb).more hb.size)
        have hL10 := hid ((hL9.out.below hb).more hb.size)
        clear hb hB9 hX9 hR9 hP9 hL9
        refine hK'.out _ _ (by exact ⟨hR10.out, hcl.out _ hB10.out⟩) (fun hHeld => ?_)
        clear hK' K
        refine wpAnyH_take (i := 10) (v := .int .i64 1001) rfl (by kernel_rfl) (by kernel_rfl) (by kernel_rfl) (fun _ _ _ h => h) (yieldsIf_assign _ rfl rfl rfl) hHeld ?_
        simp only [ly1, ly2, ly3, Act.put, ly5, ly6, ly7]
        refine wpAnyH_done (by kernel_rfl) ?_ _
        go_wp2_with fail
        skip
        refine (hC.out _ hX10.out).mono ?_
        rintro e W11 ⟨A2, d2, rfl, hN, hd2, hnil, hl2, hb⟩
        have hB11 := hid (below_up hb hB10.out)
        have hX11 := hid ((hX10.out.below hb).more hb.size)
        have hR11 := hid (hR10.out.below hb hR10.out.lt)
        have hP11 := hid ((hP10.out.below hb).more hb.size)
        have hL11 := hid ((hL10.out.below hb).more hb.size)
        have hQ11 := hid hN
        clear hb hB10 hX10 hR10 hP10 hL10 hN
        obtain ⟨l2, hl2e⟩ : ∃ l, Q.length = l := ⟨_, rfl⟩
        rw [hl2e] at hQ11 hd2 hl2 ⊢
        go_wp2_with fail
        refine (hro.out _ hX11.out).mono ?_
        rintro e W12 ⟨rfl, hb⟩
        have hB12 := hid (below_up hb hB11.out)
        have hX12 := hid ((hX11.out.below hb).more hb.size)
        have hR12 := hid (hR11.out.below hb hR11.out.lt)
        have hP12 := hid ((hP11.out.below hb).more hb.size)
        have hL12 := hid ((hL11.out.below hb).more hb.size)
        have hQ12 := hid ((hQ11.out.below hb).more hb.size)
        clear hb hB11 hX11 hR11 hP11 hL11 hQ11
        try (rename_i hK1; refine hK1 _ _ ?_; clear hK1)
        go_wp2_with (first
          | ((with_reducible refine at_slot (some 17) ?_); refine wpList_run rfl (.pointer (some ⟨W12.heap.size, 0, none⟩)) (W12.alloc (.cells z32 28)) (by kernel_rfl) ?_)
          | ((with_reducible refine at_slot none ?_); refine wpList_store_mid rfl 28 (.tmp 17) (.tmp 89) rfl W12.heap.size 0 co.toArray rfl rfl (by exact hco.out.there W12) (by exact hco.out.size) (by exact hco.out.one) ?_; generalize hW : World.setCells _ _ _ _ = W13; obtain ⟨hN, hb⟩ := hco.out.new hW; have hB13 := hid (below_up hb hB12.out); have hX13 := hid ((hX12.out.below hb).more hb.size); have hR13 := hid (hR12.out.below hb hR12.out.lt); have hP13 := hid ((hP12.out.below hb).more hb.size); have hL13 := hid ((hL12.out.below hb).more hb.size); have hQ13 := hid ((hQ12.out.below hb).more hb.size); have hO13 := hid hN; clear hb hB12 hX12 hR12 hP12 hL12 hQ12 hN; clear hW)
          | ((with_reducible refine at_slot (some 91) ?_); refine wpList_load_mid rfl 28 (.tmp 17) rfl W12.heap.size 0 rfl co _ (by exact h_all hO13.out) Try.underlying28 rfl (by exact hco.out.size') ?_)
          | ((with_reducible refine at_slot (some 94) ?_); refine wpList_load_mid rfl 28 (.tmp 9) rfl W3.heap.size 0 rfl cr _ (by exact h_all hR13.out) Try.underlying28 rfl (by exact hcr.out.size') ?_)
          | fail)
        refine (hJ.out _ _ _ _ hQ13.out hd2 (by omega)).mono ?_
        rintro e W14 ⟨rfl, hb⟩
        have hB14 := hid (below_up hb hB13.out)
        have hX14 := hid ((hX13.out.below hb).more hb.size)
        have hR14 := hid (hR13.out.below hb hR13.out.lt)
        have hP14 := hid ((hP13.out.below hb).more hb.size)
        have hL14 := hid ((hL13.out.below hb).more hb.size)
        have hQ14 := hid ((hQ13.out.below hb).more hb.size)
        have hO14 := hid (hO13.out.below hb hO13.out.lt)
        clear hb hB13 hX13 hR13 hP13 hL13 hQ13 hO13
        go_wp2_with fail
        refine wp_region_mid (fun a a' W' => ∃ v0 v2 v4 A6 c6, a' = puts a [(97, v0), (98, .slice A2 l2 d2), (99, v2), (100, .agg cr.toArray), (101, v4), (102, .slice A6 (l2 + 1) c6), (19, .slice A6 (l2 + 1) c6)] ∧ Hashs W' W'.heap.size A6 (l2 + 1) (Q ++ [R]) ∧ l2 + 1 ≤ c6 ∧ Below W14.heap.size W14 W') ?_ ?_
        · skip
          have hb_0 := hid ((Below.refl W14.heap.size W14).drew)
          have hRs := hid hR14.out
          have hLs := hid hQ14.out
          have hR_ := hid (hRs.out.below hb_0.out hRs.out.lt)
          refine wp_region_held_drew (S := fun W => Holds W W3.heap.size 28 cr) (by kernel_rfl) (by exact hR_.out) (fun hHeld => ?_)
          generalize W14.drew = V0 at *
          refine wpAnyH_take (i := 1) (v := .slice A2 l2 d2) rfl (by kernel_rfl) (by kernel_rfl) (by kernel_rfl) (fun _ _ _ h => h) (yieldsIf_move _ rfl rfl rfl) hHeld ?_
          simp only [ly1, ly2, ly3, Act.put, ly5, ly6, ly7]
          refine wpAnyH_take (i := 3) (v := .agg cr.toArray) rfl (by kernel_rfl) (by kernel_rfl) (by kernel_rfl) (fun _ _ _ h => h) (yieldsIf_load_mid (by kernel_rfl) _ _ rfl _ _ rfl _ _ (fun W h => h_all h) Try.underlying28 rfl (by exact hcr.out.size')) hHeld ?_
          simp only [ly1, ly2, ly3, Act.put, ly5, ly6, ly7]
          refine wpAnyH_ready (rs := [0, 4]) (by kernel_rfl) (by simp) (AllReadyH.cons rfl (fun K hK => ?_) (AllReadyH.cons rfl (fun K hK => ?_) AllReadyH.nil))
          · skip
            have hK' := hid hK
            clear hK
            rw [if_pos (by kernel_rfl)]
            simp only [ly1, ly2, ly3]
            obtain ⟨g0, hg0⟩ : ∃ g, g = V0.heap.size := ⟨_, rfl⟩
            refine wp_run (.slice (some ⟨g0, 0, none⟩) 0 0) (V0.alloc (.cells #[] 28)) (by rw [hg0]; kernel_rfl) ?_
            have hge0 : W14.heap.size ≤ g0 := by rw [hg0]; exact hb_0.out.size
            have hrow := hid (show (V0.alloc (.cells #[] 28)).ownsRow W14.heap.size 28 32 (.slice (some ⟨g0, 0, none⟩) 0 0) 0 [] from ⟨rfl, .inr ⟨g0, 0, #[], rfl, hge0, (by rw [hg0]; exact Holds.new V0 _ _), Nat.le_refl _, Nat.zero_le _, rfl, rfl⟩⟩)
            have hb_1 := hid (hb_0.out.alloc hb_0.out.size (.cells #[] 28))
            generalize V0.alloc (.cells #[] 28) = V1 at *
            clear hg0 hb_0
            have hR_ := hid (hRs.out.below hb_1.out hRs.out.lt)
            refine hK'.out _ _ (by exact hR_.out) (fun hHeld => ?_)
            clear hK' K
            refine wpAnyH_ready (rs := [2, 4]) (by kernel_rfl) (by simp) (AllReadyH.cons rfl (fun K hK => ?_) (AllReadyH.cons rfl (fun K hK => ?_) AllReadyH.nil))
            · skip
              have hK' := hid hK
              clear hK
              rw [if_pos (by kernel_rfl)]
              simp only [ly1, ly2, ly3]
              refine wp_appends (.tmp 97) (.tmp 98) 41 28 rfl W14.heap.size i0 _ 32 32 Try.underlying41 hi0 hz0 hz1 hz2 (by decide) (by decide) (some ⟨g0, 0, none⟩) 0 0 [] W14.heap.size A2 l2 d2 (hashCells Q) rfl rfl (by exact hnil) (hashCells_each _) (by omega) (by omega) (by exact hrow.out) (by exact (hLs.out.below hb_1.out).1) (by exact hb_1.out.size) ?_
              intro A5 c5 V2 hrow5 hb5 hg5
              rw [Nat.zero_add, List.nil_append] at hrow5
              rw [Nat.zero_add l2]
              have hrow5' := hid hrow5
              have hb_2 := hid (hb_1.out.trans hb5)
              clear hrow5 hb5 hg5 hb_1
              have hR_ := hid (hRs.out.below hb_2.out hRs.out.lt)
              refine hK'.out _ _ (by exact hR_.out) (fun hHeld => ?_)
              clear hK' K
              refine wpAnyH_ready (rs := [4]) (by kernel_rfl) (by simp) (AllReadyH.cons rfl (fun K hK => ?_) AllReadyH.nil)
              have hK' := hid hK
              clear hK
              rw [if_pos (by kernel_rfl)]
              simp only [ly1, ly2, ly3]
              obtain ⟨g4, hg4⟩ : ∃ g, g = V2.heap.size := ⟨_, rfl⟩
              refine wp_buildSlice_one 41 28 (.tmp 100) rfl i0 _ Try.underlying41 hi0 hz0 cr.toArray rfl (by rw [hz1, List.size_toArray, hcr.out.len]) (by rw [List.size_toArray, hcr.out.len]; decide) (by rw [List.size_toArray, hcr.out.len]; decide) ?_
              have hO3 := hid (show Holds (V2.alloc (.cells cr.toArray 28)) g4 28 cr from by rw [hg4]; exact Holds.new V2 _ _)
              have hb_3 := hid (hb_2.out.alloc hb_2.out.size (.cells cr.toArray 28))
              have hge4 : W14.heap.size ≤ g4 := by rw [hg4]; exact hb_2.out.size
              have hrow5'2 := hid (hrow5'.out.alloc (.cells cr.toArray 28))
              rw [← hg4]
              generalize V2.alloc (.cells cr.toArray 28) = V3 at *
              clear hg4 hb_2
              have hR_ := hid (hRs.out.below hb_3.out hRs.out.lt)
              refine hK'.out _ _ (by exact hR_.out) (fun hHeld => ?_)
              clear hK' K
              refine wpAnyH_ready (rs := [5]) (by kernel_rfl) (by simp) (AllReadyH.cons rfl (fun K hK => ?_) AllReadyH.nil)
              have hK' := hid hK
              clear hK
              rw [if_pos (by kernel_rfl)]
              simp only [ly1, ly2, ly3]
              refine wp_appends (.tmp 99) (.tmp 101) 41 28 rfl W14.heap.size i0 _ 32 32 Try.underlying41 hi0 hz0 hz1 hz2 (by decide) (by decide) A5 l2 c5 (hashCells Q) (g4 + 1) (some ⟨g4, 0, none⟩) 1 1 cr rfl rfl (fun h => by cases h) (by exact hone.out) (by omega) (by omega) (by exact hrow5'2.out) (by exact At.of_holds hO3.out (by rw [hcr.out.len]) (Nat.lt_succ_self _)) (by exact hb_3.out.size) ?_
              intro A6 c6 V4 hrow6 hb6 hg6
              have hrow6' := hid hrow6
              have hb_4 := hid (hb_3.out.trans hb6)
              clear hrow6 hb6 hg6 hb_3
              have hR_ := hid (hRs.out.below hb_4.out hRs.out.lt)
              refine hK'.out _ _ (by exact hR_.out) (fun hHeld => ?_)
              clear hK' K
              refine wpAnyH_take (i := 6) (v := .slice A6 (l2 + 1) c6) rfl (by kernel_rfl) (by kernel_rfl) (by kernel_rfl) (fun _ _ _ h => h) (yieldsIf_assign _ rfl rfl rfl) hHeld ?_
              simp only [ly1, ly2, ly3, Act.put, ly5, ly6, ly7]
              refine wpAnyH_done (by kernel_rfl) ?_ _
              have hcap := own_cap hrow6'.out
              have hH6 := Hashs.of_own (w := V4) (A := A6) (hs := Q ++ [R]) (by rw [hashCells_append, hcells.out]; exact hrow6'.out) (fun y hy => by rcases List.mem_append.1 hy with h | h; exact hQl.out y h; rw [List.mem_singleton.1 h]; exact hrl'.out)
              exact ⟨.slice (some ⟨g0, 0, none⟩) 0 0, .slice A5 l2 c5, .slice (some ⟨g4, 0, none⟩) 1 1, A6, c6, by simp only [puts, Act.put, List.setIfInBounds_toArray, List.set_cons_zero, List.set_cons_succ], hH6, hcap, hb_4.out⟩
            · skip
              have hK' := hid hK
              clear hK
              rw [if_pos (by kernel_rfl)]
              simp only [ly1, ly2, ly3]
              obtain ⟨g4, hg4⟩ : ∃ g, g = V1.heap.size := ⟨_, rfl⟩
              refine wp_buildSlice_one 41 28 (.tmp 100) rfl i0 _ Try.underlying41 hi0 hz0 cr.toArray rfl (by rw [hz1, List.size_toArray, hcr.out.len]) (by rw [List.size_toArray, hcr.out.len]; decide) (by rw [List.size_toArray, hcr.out.len]; decide) ?_
              have hO2 := hid (show Holds (V1.alloc (.cells cr.toArray 28)) g4 28 cr from by rw [hg4]; exact Holds.new V1 _ _)
              have hb_2 := hid (hb_1.out.alloc hb_1.out.size (.cells cr.toArray 28))
              have hge4 : W14.heap.size ≤ g4 := by rw [hg4]; exact hb_1.out.size
              have hrow2 := hid (hrow.out.alloc (.cells cr.toArray 28))
              have hne : g4 ≠ g0 := by have h1 := own_lt0 hrow.out; omega
              rw [← hg4]
              generalize V1.alloc (.cells cr.toArray 28) = V2 at *
              clear hg4 hb_1
              have hR_ := hid (hRs.out.below hb_2.out hRs.out.lt)
              refine hK'.out _ _ (by exact hR_.out) (fun hHeld => ?_)
              clear hK' K
              refine wpAnyH_ready (rs := [2]) (by kernel_rfl) (by simp) (AllReadyH.cons rfl (fun K hK => ?_) AllReadyH.nil)
              have hK' := hid hK
              clear hK
              rw [if_pos (by kernel_rfl)]
              simp only [ly1, ly2, ly3]
              refine wp_appends (.tmp 97) (.tmp 98) 41 28 rfl W14.heap.size i0 _ 32 32 Try.underlying41 hi0 hz0 hz1 hz2 (by decide) (by decide) (some ⟨g0, 0, none⟩) 0 0 [] W14.heap.size A2 l2 d2 (hashCells Q) rfl rfl (by exact hnil) (hashCells_each _) (by omega) (by omega) (by exact hrow2.out) (by exact (hLs.out.below hb_2.out).1) (by exact hb_2.out.size) ?_
              intro A5 c5 V3 hrow5 hb5 hg5
              rw [Nat.zero_add, List.nil_append] at hrow5
              rw [Nat.zero_add l2]
              have hrow5' := hid hrow5
              have hb_3 := hid (hb_2.out.trans hb5)
              have hO3 := hid (hO2.out.grown hg5 (by intro h; exact hne (Option.some.inj h)))
              clear hrow5 hb5 hg5 hb_2 hO2
              have hR_ := hid (hRs.out.below hb_3.out hRs.out.lt)
              refine hK'.out _ _ (by exact hR_.out) (fun hHeld => ?_)
              clear hK' K
              refine wpAnyH_ready (rs := [5]) (by kernel_rfl) (by simp) (AllReadyH.cons rfl (fun K hK => ?_) AllReadyH.nil)
              have hK' := hid hK
              clear hK
              rw [if_pos (by kernel_rfl)]
              simp only [ly1, ly2, ly3]
              refine wp_appends (.tmp 99) (.tmp 101) 41 28 rfl W14.heap.size i0 _ 32 32 Try.underlying41 hi0 hz0 hz1 hz2 (by decide) (by decide) A5 l2 c5 (hashCells Q) (g4 + 1) (some ⟨g4, 0, none⟩) 1 1 cr rfl rfl (fun h => by cases h) (by exact hone.out) (by omega) (by omega) (by exact hrow5'.out) (by exact At.of_holds hO3.out (by rw [hcr.out.len]) (Nat.lt_succ_self _)) (by exact hb_3.out.size) ?_
              intro A6 c6 V4 hrow6 hb6 hg6
              have hrow6' := hid hrow6
              have hb_4 := hid (hb_3.out.trans hb6)
              clear hrow6 hb6 hg6 hb_3
              have hR_ := hid (hRs.out.below hb_4.out hRs.out.lt)
              refine hK'.out _ _ (by exact hR_.out) (fun hHeld => ?_)
              clear hK' K
              refine wpAnyH_take (i := 6) (v := .slice A6 (l2 + 1) c6) rfl (by kernel_rfl) (by kernel_rfl) (by kernel_rfl) (fun _ _ _ h => h) (yieldsIf_assign _ rfl rfl rfl) hHeld ?_
              simp only [ly1, ly2, ly3, Act.put, ly5, ly6, ly7]
              refine wpAnyH_done (by kernel_rfl) ?_ _
              have hcap := own_cap hrow6'.out
              have hH6 := Hashs.of_own (w := V4) (A := A6) (hs := Q ++ [R]) (by rw [hashCells_append, hcells.out]; exact hrow6'.out) (fun y hy => by rcases List.mem_append.1 hy with h | h; exact hQl.out y h; rw [List.mem_singleton.1 h]; exact hrl'.out)
              exact ⟨.slice (some ⟨g0, 0, none⟩) 0 0, .slice A5 l2 c5, .slice (some ⟨g4, 0, none⟩) 1 1, A6, c6, by simp only [puts, Act.put, List.setIfInBounds_toArray, List.set_cons_zero, List.set_cons_succ], hH6, hcap, hb_4.out⟩
          · skip
            have hK' := hid hK
            clear hK
            rw [if_pos (by kernel_rfl)]
            simp only [ly1, ly2, ly3]
            obtain ⟨g4, hg4⟩ : ∃ g, g = V0.heap.size := ⟨_, rfl⟩
            refine wp_buildSlice_one 41 28 (.tmp 100) rfl i0 _ Try.underlying41 hi0 hz0 cr.toArray rfl (by rw [hz1, List.size_toArray, hcr.out.len]) (by rw [List.size_toArray, hcr.out.len]; decide) (by rw [List.size_toArray, hcr.out.len]; decide) ?_
            have hO1 := hid (show Holds (V0.alloc (.cells cr.toArray 28)) g4 28 cr from by rw [hg4]; exact Holds.new V0 _ _)
            have hb_1 := hid (hb_0.out.alloc hb_0.out.size (.cells cr.toArray 28))
            have hge4 : W14.heap.size ≤ g4 := by rw [hg4]; exact hb_0.out.size
            rw [← hg4]
            generalize V0.alloc (.cells cr.toArray 28) = V1 at *
            clear hg4 hb_0
            have hR_ := hid (hRs.out.below hb_1.out hRs.out.lt)
            refine hK'.out _ _ (by exact hR_.out) (fun hHeld => ?_)
            clear hK' K
            refine wpAnyH_ready (rs := [0]) (by kernel_rfl) (by simp) (AllReadyH.cons rfl (fun K hK => ?_) AllReadyH.nil)
            have hK' := hid hK
            clear hK
            rw [if_pos (by kernel_rfl)]
            simp only [ly1, ly2, ly3]
            obtain ⟨g0, hg0⟩ : ∃ g, g = V1.heap.size := ⟨_, rfl⟩
            refine wp_run (.slice (some ⟨g0, 0, none⟩) 0 0) (V1.alloc (.cells #[] 28)) (by rw [hg0]; kernel_rfl) ?_
            have hge0 : W14.heap.size ≤ g0 := by rw [hg0]; exact hb_1.out.size
            have hrow := hid (show (V1.alloc (.cells #[] 28)).ownsRow W14.heap.size 28 32 (.slice (some ⟨g0, 0, none⟩) 0 0) 0 [] from ⟨rfl, .inr ⟨g0, 0, #[], rfl, hge0, (by rw [hg0]; exact Holds.new V1 _ _), Nat.le_refl _, Nat.zero_le _, rfl, rfl⟩⟩)
            have hb_2 := hid (hb_1.out.alloc hb_1.out.size (.cells #[] 28))
            have hO2 := hid (hO1.out.alloc (.cells #[] 28))
            have hne : g4 ≠ g0 := by have := hO1.out.lt; omega
            generalize V1.alloc (.cells #[] 28) = V2 at *
            clear hg0 hb_1 hO1
            have hR_ := hid (hRs.out.below hb_2.out hRs.out.lt)
            refine hK'.out _ _ (by exact hR_.out) (fun hHeld => ?_)
            clear hK' K
            refine wpAnyH_ready (rs := [2]) (by kernel_rfl) (by simp) (AllReadyH.cons rfl (fun K hK => ?_) AllReadyH.nil)
            have hK' := hid hK
            clear hK
            rw [if_pos (by kernel_rfl)]
            simp only [ly1, ly2, ly3]
            refine wp_appends (.tmp 97) (.tmp 98) 41 28 rfl W14.heap.size i0 _ 32 32 Try.underlying41 hi0 hz0 hz1 hz2 (by decide) (by decide) (some ⟨g0, 0, none⟩) 0 0 [] W14.heap.size A2 l2 d2 (hashCells Q) rfl rfl (by exact hnil) (hashCells_each _) (by omega) (by omega) (by exact hrow.out) (by exact (hLs.out.below hb_2.out).1) (by exact hb_2.out.size) ?_
            intro A5 c5 V3 hrow5 hb5 hg5
            rw [Nat.zero_add, List.nil_append] at hrow5
            rw [Nat.zero_add l2]
            have hrow5' := hid hrow5
            have hb_3 := hid (hb_2.out.trans hb5)
            have hO3 := hid (hO2.out.grown hg5 (by intro h; exact hne (Option.some.inj h)))
            clear hrow5 hb5 hg5 hb_2 hO2
            have hR_ := hid (hRs.out.below hb_3.out hRs.out.lt)
            refine hK'.out _ _ (by exact hR_.out) (fun hHeld => ?_)
            clear hK' K
            refine wpAnyH_ready (rs := [5]) (by kernel_rfl) (by simp) (AllReadyH.cons rfl (fun K hK => ?_) AllReadyH.nil)
            have hK' := hid hK
            clear hK
            rw [if_pos (by kernel_rfl)]
            simp only [ly1, ly2, ly3]
            refine wp_appends (.tmp 99) (.tmp 101) 41 28 rfl W14.heap.size i0 _ 32 32 Try.underlying41 hi0 hz0 hz1 hz2 (by decide) (by decide) A5 l2 c5 (hashCells Q) (g4 + 1) (some ⟨g4, 0, none⟩) 1 1 cr rfl rfl (fun h => by cases h) (by exact hone.out) (by omega) (by omega) (by exact hrow5'.out) (by exact At.of_holds hO3.out (by rw [hcr.out.len]) (Nat.lt_succ_self _)) (by exact hb_3.out.size) ?_
            intro A6 c6 V4 hrow6 hb6 hg6
            have hrow6' := hid hrow6
            have hb_4 := hid (hb_3.out.trans hb6)
            clear hrow6 hb6 hg6 hb_3
            have hR_ := hid (hRs.out.below hb_4.out hRs.out.lt)
            refine hK'.out _ _ (by exact hR_.out) (fun hHeld => ?_)
            clear hK' K
            refine wpAnyH_take (i := 6) (v := .slice A6 (l2 + 1) c6) rfl (by kernel_rfl) (by kernel_rfl) (by kernel_rfl) (fun _ _ _ h => h) (yieldsIf_assign _ rfl rfl rfl) hHeld ?_
            simp only [ly1, ly2, ly3, Act.put, ly5, ly6, ly7]
            refine wpAnyH_done (by kernel_rfl) ?_ _
            have hcap := own_cap hrow6'.out
            have hH6 := Hashs.of_own (w := V4) (A := A6) (hs := Q ++ [R]) (by rw [hashCells_append, hcells.out]; exact hrow6'.out) (fun y hy => by rcases List.mem_append.1 hy with h | h; exact hQl.out y h; rw [List.mem_singleton.1 h]; exact hrl'.out)
            exact ⟨.slice (some ⟨g0, 0, none⟩) 0 0, .slice A5 l2 c5, .slice (some ⟨g4, 0, none⟩) 1 1, A6, c6, by simp only [puts, Act.put, List.setIfInBounds_toArray, List.set_cons_zero, List.set_cons_succ], hH6, hcap, hb_4.out⟩
        · skip
          rintro a' W15 ⟨v0, v2, v4, A6, c6, rfl, hN, hc6, hb⟩
          simp only [puts, Act.put, List.setIfInBounds_toArray, List.set_cons_zero, List.set_cons_succ]
          have hB15 := hid (below_up hb hB14.out)
          have hX15 := hid ((hX14.out.below hb).more hb.size)
          have hR15 := hid (hR14.out.below hb hR14.out.lt)
          have hP15 := hid ((hP14.out.below hb).more hb.size)
          have hL15 := hid ((hL14.out.below hb).more hb.size)
          have hQ15 := hid ((hQ14.out.below hb).more hb.size)
          have hO15 := hid (hO14.out.below hb hO14.out.lt)
          have hM15 := hid hN
          clear hb hB14 hX14 hR14 hP14 hL14 hQ14 hO14 hN
          go_wp2_with (first
            | ((with_reducible refine at_slot (some 104) ?_); refine wpList_load_mid rfl 28 (.tmp 17) rfl W12.heap.size 0 rfl co _ (by exact h_all hO15.out) Try.underlying28 rfl (by exact hco.out.size') ?_)
            | ((with_reducible refine at_slot (some 107) ?_); refine wpList_load_mid rfl 28 (.tmp 9) rfl W3.heap.size 0 rfl cr _ (by exact h_all hR15.out) Try.underlying28 rfl (by exact hcr.out.size') ?_)
            | fail)
          refine (hO.out _ _ _ _ hM15.out hc6 (by omega)).mono ?_
          rintro e W16 ⟨rfl, hb⟩
          have hB16 := hid (below_up hb hB15.out)
          have hX16 := hid ((hX15.out.below hb).more hb.size)
          have hR16 := hid (hR15.out.below hb hR15.out.lt)
          have hP16 := hid ((hP15.out.below hb).more hb.size)
          have hL16 := hid ((hL15.out.below hb).more hb.size)
          have hQ16 := hid ((hQ15.out.below hb).more hb.size)
          have hO16 := hid (hO15.out.below hb hO15.out.lt)
          have hM16 := hid ((hM15.out.below hb).more hb.size)
          clear hb hB15 hX15 hR15 hP15 hL15 hQ15 hO15 hM15
          go_wp2_with (go_at_call 25; refine (errNum_any _ _).mono ?_; rintro e w' ⟨rfl, rfl⟩)
          go_ret
          exact ⟨rfl, hB16.out⟩

end Go.Proofs.Ytenfhmpjhbpkpaa
