/- Layer 6, the program's side: parse, Verify. -/
import Derived.Test.YtmfajekfipfjpaaGreatHsE
set_option maxRecDepth 100000
namespace Go.Proofs.YtmfajekfipfjpaaGreat
open Go.RowKit
open Go.Lib (strCells strCells_length strCells_oneCell)
attribute [local irreducible] Sha.compress Sha.blocks Sha.sha Sha.pad

def pGood (pb s : ByteArray) : Prop := behOk pb 2 = true ∧ (behT pb 2).size = 56 ∧ behOk s 1 = true ∧ slOk (behT pb 2).data.toList = true ∧ slLen (behT pb 2).data.toList + 56 ≤ (behT s 1).size
instance (pb s : ByteArray) : Decidable (pGood pb s) := by unfold pGood; exact inferInstance
/-- A signature's three parts. -/
def pN (pb : ByteArray) : Nat := slLen (behT pb 2).data.toList
def pLow (pb s : ByteArray) : ByteArray := (behT s 1).extract (pN pb) (pN pb + 56)
def pOne (pb s : ByteArray) : ByteArray := (behT s 1).extract 0 (pN pb)
def pTwo (pb s : ByteArray) : ByteArray := (behT s 1).extract (pN pb + 56) (behT s 1).size
def lvC (a b c d e f : ByteArray) : List Value := [.string a, .string b, .string c, .string d, .string e, .string f]
def pOk (pb s : ByteArray) : Bool := slOk (pLow pb s).data.toList && decide ((pTwo pb s).size = slLen (pLow pb s).data.toList)

/-- What parse answers. -/
def PPost (good : Prop) (ok : Bool) (cs : List Value) (e : Ending) (w' : World) : Prop :=
  (¬ good ∧ e = .returned (.tuple #[.slice none 0 0, .bool false])) ∨ (good ∧ ∃ g, e = .returned (.tuple #[.slice (some ⟨g, 0, none⟩) 2 2, .bool ok]) ∧ Holds w' g 97 cs)

set_option maxHeartbeats 2000000 in
theorem hParse_any (pb msg s : ByteArray) (w : World) : Calls Tryz.prog 49 #[.string pb, .string msg, .string s] w fun e w' => Below w.heap.size w w' ∧ PPost (pGood pb s) (pOk pb s) (lvC (behT pb 2) (pLow pb s) (pOne pb s) (pLow pb s) msg (pTwo pb s)) e w' := by
  have hA := hid (fun W => show Calls Tryz.prog 78 #[.string pb, .int .i64 2] W fun e w' => e = .returned (.tuple #[.string (behT pb 2), .bool (behOk pb 2)]) ∧ Below W.heap.size W w' from behind_any pb 2 W)
  have hB := hid (fun W => show Calls Tryz.prog 78 #[.string s, .int .i64 1] W fun e w' => e = .returned (.tuple #[.string (behT s 1), .bool (behOk s 1)]) ∧ Below W.heap.size W w' from behind_any s 1 W)
  have hS1 := hid (fun h8 W => signLen_any (behT pb 2) h8 W)
  have hS2 := hid (fun h8 W => signLen_any (pLow pb s) h8 W)
  have hle := slLen_le (behT pb 2).data.toList
  have hg : pGood pb s = (behOk pb 2 = true ∧ (behT pb 2).size = 56 ∧ behOk s 1 = true ∧ slOk (behT pb 2).data.toList = true ∧ pN pb + 56 ≤ (behT s 1).size) := rfl
  have hd1 : pLow pb s = (behT s 1).extract (pN pb) (pN pb + 56) := rfl
  have hd2 : pOne pb s = (behT s 1).extract 0 (pN pb) := rfl
  have hd3 : pTwo pb s = (behT s 1).extract (pN pb + 56) (behT s 1).size := rfl
  have hd4 : pOk pb s = (slOk (pLow pb s).data.toList && decide ((pTwo pb s).size = slLen (pLow pb s).data.toList)) := rfl
  rw [show slLen (behT pb 2).data.toList = pN pb from rfl] at hS1 hle
  obtain ⟨gd, hgd⟩ : ∃ P : Prop, pGood pb s = P := ⟨_, rfl⟩
  obtain ⟨okv, hokv⟩ : ∃ b, pOk pb s = b := ⟨_, rfl⟩
  rw [hgd] at hg
  rw [hokv] at hd4
  rw [hgd, hokv]
  obtain ⟨high, hhigh⟩ : ∃ t, behT pb 2 = t := ⟨_, rfl⟩
  obtain ⟨o1, ho1⟩ : ∃ t, behOk pb 2 = t := ⟨_, rfl⟩
  obtain ⟨rest, hrest⟩ : ∃ t, behT s 1 = t := ⟨_, rfl⟩
  obtain ⟨o2, ho2⟩ : ∃ t, behOk s 1 = t := ⟨_, rfl⟩
  obtain ⟨n, hn⟩ : ∃ t, pN pb = t := ⟨_, rfl⟩
  obtain ⟨low, hlow⟩ : ∃ t, pLow pb s = t := ⟨_, rfl⟩
  obtain ⟨r1, hr1⟩ : ∃ t, pOne pb s = t := ⟨_, rfl⟩
  obtain ⟨r2, hr2⟩ : ∃ t, pTwo pb s = t := ⟨_, rfl⟩
  rw [hhigh, ho1] at hA
  rw [hrest, ho2] at hB
  rw [hhigh, hn] at hS1
  rw [hlow] at hS2
  rw [hn] at hle
  rw [hlow, hrest, hn] at hd1
  rw [hr1, hrest, hn] at hd2
  rw [hr2, hrest, hn] at hd3
  rw [hhigh, hlow, hr1, hr2]
  rw [hhigh, ho1, hrest, ho2, hn] at hg
  rw [hlow, hr2] at hd4
  obtain ⟨k1, hk1⟩ : ∃ t, slOk high.data.toList = t := ⟨_, rfl⟩
  obtain ⟨k2, hk2⟩ : ∃ t, slOk low.data.toList = t := ⟨_, rfl⟩
  obtain ⟨m, hm⟩ : ∃ t, slLen low.data.toList = t := ⟨_, rfl⟩
  rw [hk1] at hS1 hg
  rw [hk2, hm] at hS2 hd4
  have hgd' := hid hg
  have hokv' := hid hd4
  clear hg hd4 hgd hokv hhigh ho1 hrest ho2 hn hlow hr1 hr2 hk1 hk2 hm
  go_enter Tryz.func49, Tryz.ntmps49
  go_wp2_with fail
  refine (hA.out _).mono ?_
  rintro e W1 ⟨rfl, hb⟩
  have hB1 := hid hb
  clear hb
  cases o1
  · go_wp2_with fail
    go_ret2
    exact ⟨hB1.out, .inl ⟨fun h => (by rw [hgd'.out] at h; cases h.1), rfl⟩⟩
  by_cases h56 : ¬ high.size = 56
  · have e1 : ((high.size : Int) != 56) = true := by rw [bne_iff_ne]; omega
    go_wp2_with fail
    go_ret2
    exact ⟨hB1.out, .inl ⟨fun h => (by rw [hgd'.out] at h; exact h56 h.2.1), rfl⟩⟩
  have h56 : high.size = 56 := Decidable.not_not.1 h56
  have e1 : ((high.size : Int) != 56) = false := by rw [h56]; rfl
  have h56' := hid h56
  clear h56
  go_wp2_with fail
  refine (hB.out _).mono ?_
  rintro e W2 ⟨rfl, hb⟩
  have hB2 := zup hb hB1
  clear hb hB1
  cases o2
  · go_wp2_with fail
    go_ret2
    exact ⟨hB2.out, .inl ⟨fun h => (by rw [hgd'.out] at h; cases h.2.2.1), rfl⟩⟩
  go_wp2_with fail
  refine (hS1.out (by have := h56'.out; omega) _).mono ?_
  rintro e W3 ⟨rfl, hb⟩
  have hB3 := zup hb hB2
  clear hb hB2
  cases k1
  · go_wp2_with fail
    go_ret2
    exact ⟨hB3.out, .inl ⟨fun h => (by rw [hgd'.out] at h; cases h.2.2.2.1), rfl⟩⟩
  obtain ⟨n56, hn56⟩ : ∃ x, n + 56 = x := ⟨_, rfl⟩
  have uw : IntKind.i64.wrap ((n : Int) + 56) = (n56 : Int) := by rw [IntWalk.i64_in _ (by omega)]; omega
  rw [hn56] at hd1 hd3
  by_cases hsh : ¬ n56 ≤ rest.size
  · have e2 : (rest.size : Int) < (n56 : Int) := by omega
    go_wp2_with fail
    go_ret2
    exact ⟨hB3.out, .inl ⟨fun h => (by rw [hgd'.out] at h; have := h.2.2.2.2; omega), rfl⟩⟩
  have hsh : n56 ≤ rest.size := Decidable.not_not.1 hsh
  have e2 : ¬ (rest.size : Int) < (n56 : Int) := by omega
  have b1 : (n : Int) ≤ (n56 : Int) := by omega
  have b2 : (n56 : Int) ≤ (rest.size : Int) := by omega
  have b3 : (n : Int) ≤ (rest.size : Int) := by omega
  have b4 : (0 : Int) ≤ (n : Int) := by omega
  have b5 : (0 : Int) ≤ (n56 : Int) := by omega
  have hls : 8 ≤ low.size := by rw [hd1, ByteArray.size_extract]; omega
  have hx1 := hd1.symm
  have hx2 := hd2.symm
  have hx3 := hd3.symm
  clear hd1 hd2 hd3
  have hgood' := hid (show gd from by rw [hgd'.out]; exact ⟨by trivial, h56'.out, by trivial, by trivial, by omega⟩)
  have hls' := hid hls
  clear hsh hls hn56 hle
  go_wp2_with fail
  have hb : Below W3.heap.size W3 W3.drew := (Below.refl _ _).drew
  have hB4 := zup hb hB3
  clear hb hB3
  refine wp_region_held_drew (S := fun _ => True) (by kernel_rfl) (by exact trivial) (fun zH => ?_)
  generalize W3.drew = W4 at *
  refine tkx 0 (.string high) zH ?_; simp only [lp]
  refine tkx 1 (.string low) zH ?_; simp only [lp]
  refine tkx 2 (.string rest) zH ?_; simp only [lp]
  refine tkx 3 (.int .i64 (n : Int)) zH ?_; simp only [lp]
  refine tkx 4 (.string r1) zH ?_; simp only [lp]
  refine tkx 5 (.agg #[.string high, .string low, .string r1]) zH ?_; simp only [lp]
  refine tkx 6 (.string low) zH ?_; simp only [lp]
  refine tkx 7 (.string msg) zH ?_; simp only [lp]
  refine tkx 8 (.string rest) zH ?_; simp only [lp]
  refine tkx 9 (.int .i64 (n : Int)) zH ?_; simp only [lp]
  refine tkx 10 (.int .i64 (n56 : Int)) zH ?_; simp only [lp]
  refine tkx 11 (.string r2) zH ?_; simp only [lp]
  refine tkx 12 (.agg #[.string low, .string msg, .string r2]) zH ?_; simp only [lp]
  refine wpAnyH_ready (rs := [13]) (by kernel_rfl) (by simp) (AllReadyH.cons rfl (fun K hK => ?_) AllReadyH.nil)
  have hK' := hid hK
  clear hK
  rw [if_pos (by kernel_rfl)]
  simp only [ly1, ly2, ly3]
  obtain ⟨g, hg⟩ : ∃ g, W4.heap.size = g := ⟨_, rfl⟩
  refine wp_run (.slice (some ⟨g, 0, none⟩) 2 2) (W4.alloc (.cells (lvC high low r1 low msg r2).toArray 97)) (by rw [← hg]; kernel_rfl) ?_
  have hb := (Below.refl W4.heap.size W4).alloc (Nat.le_refl _) (.cells (lvC high low r1 low msg r2).toArray 97)
  have hN : Holds (W4.alloc (.cells (lvC high low r1 low msg r2).toArray 97)) g 97 (lvC high low r1 low msg r2) := by rw [← hg]; exact Holds.new _ _ _
  generalize W4.alloc (.cells (lvC high low r1 low msg r2).toArray 97) = W5 at *
  have hB5 := zup hb hB4
  have hV5 := hid hN
  clear hb hB4 hN hg
  refine hK'.out _ _ (by exact trivial) (fun zH => ?_)
  clear hK' K
  refine tkx 14 (.slice (some ⟨g, 0, none⟩) 2 2) zH ?_; simp only [lp]
  refine wpAnyH_done (by kernel_rfl) ?_ _
  go_wp2_with fail
  refine (hS2.out hls'.out _).mono ?_
  rintro e W6 ⟨rfl, hb⟩
  have hB6 := zup hb hB5
  have hV6 := zon hb hV5
  clear hb hB5 hV5
  cases k2
  · skip
    go_wp2_with fail
    have hb : Below W6.heap.size W6 W6.drew := (Below.refl _ _).drew
    have hB7 := zup hb hB6
    have hV7 := zon hb hV6
    clear hb hB6 hV6
    refine wp_region_held_drew (S := fun V => Holds V g 97 (lvC high low r1 low msg r2)) (by kernel_rfl) (by exact hV7.out) (fun zH => ?_)
    generalize W6.drew = W7 at *
    refine tkx 0 (.slice (some ⟨g, 0, none⟩) 2 2) zH ?_; simp only [lp]
    refine tkx 1 (.bool false) zH ?_; simp only [lp]
    refine tkx 2 (.bool false) zH ?_; simp only [lp]
    refine tkx 3 undef zH ?_
    refine tkx 4 undef zH ?_
    refine tkx 5 undef zH ?_
    refine tkx 6 undef zH ?_
    refine tkx 7 undef zH ?_
    refine tkx 8 undef zH ?_
    refine tkx 9 undef zH ?_; simp only [lp]
    refine tkx 10 (.bool false) zH ?_; simp only [lp]
    refine tkx 11 (.slice (some ⟨g, 0, none⟩) 2 2) zH ?_; simp only [lp]
    refine tkx 12 (.bool false) zH ?_; simp only [lp]
    refine wpAnyH_done (by kernel_rfl) ?_ _
    go_wp2_with fail
    go_ret2
    exact ⟨hB7.out, .inr ⟨hgood'.out, g, by rw [hokv'.out]; rfl, hV7.out⟩⟩
  · by_cases hme : r2.size = m
    · have e9 : ((r2.size : Int) == (m : Int)) = true := by rw [hme]; simp
      have hdm := decide_eq_true hme
      have hdm' := hid hdm
      clear hme hdm
      go_wp2_with fail
      have hb : Below W6.heap.size W6 W6.drew := (Below.refl _ _).drew
      have hB7 := zup hb hB6
      have hV7 := zon hb hV6
      clear hb hB6 hV6
      refine wp_region_held_drew (S := fun V => Holds V g 97 (lvC high low r1 low msg r2)) (by kernel_rfl) (by exact hV7.out) (fun zH => ?_)
      generalize W6.drew = W7 at *
      refine tkx 0 (.slice (some ⟨g, 0, none⟩) 2 2) zH ?_; simp only [lp]
      refine tkx 1 (.bool true) zH ?_; simp only [lp]
      refine tkx 2 (.bool true) zH ?_; simp only [lp]
      refine tkx 3 (.slice (some ⟨g, 0, none⟩) 2 2) zH ?_; simp only [lp]
      refine tkx 4 (.pointer (some ⟨g, 3, none⟩)) zH ?_; simp only [lp]
      refine tkx 5 (.pointer (some ⟨g, 5, none⟩)) zH ?_; simp only [lp]
      refine tkx 6 (.string r2) zH ?_ (hy := .inl ⟨by kernel_rfl, fun V hS => by have c5 := hS.c 5 (.string r2) rfl; go_simp⟩); simp only [lp]
      refine tkx 7 (.int .i64 (r2.size : Int)) zH ?_; simp only [lp]
      refine tkx 8 (.int .i64 (m : Int)) zH ?_; simp only [lp]
      refine tkx 9 (.bool true) zH ?_; simp only [lp]
      refine tkx 10 (.bool true) zH ?_; simp only [lp]
      refine tkx 11 (.slice (some ⟨g, 0, none⟩) 2 2) zH ?_; simp only [lp]
      refine tkx 12 (.bool true) zH ?_; simp only [lp]
      refine wpAnyH_done (by kernel_rfl) ?_ _
      go_wp2_with fail
      go_ret2
      exact ⟨hB7.out, .inr ⟨hgood'.out, g, by rw [hokv'.out]; rw [hdm'.out]; rfl, hV7.out⟩⟩
    · have e9 : ((r2.size : Int) == (m : Int)) = false := by rw [beq_eq_false_iff_ne]; omega
      have hdm := decide_eq_false hme
      have hdm' := hid hdm
      clear hme hdm
      go_wp2_with fail
      have hb : Below W6.heap.size W6 W6.drew := (Below.refl _ _).drew
      have hB7 := zup hb hB6
      have hV7 := zon hb hV6
      clear hb hB6 hV6
      refine wp_region_held_drew (S := fun V => Holds V g 97 (lvC high low r1 low msg r2)) (by kernel_rfl) (by exact hV7.out) (fun zH => ?_)
      generalize W6.drew = W7 at *
      refine tkx 0 (.slice (some ⟨g, 0, none⟩) 2 2) zH ?_; simp only [lp]
      refine tkx 1 (.bool true) zH ?_; simp only [lp]
      refine tkx 2 (.bool true) zH ?_; simp only [lp]
      refine tkx 3 (.slice (some ⟨g, 0, none⟩) 2 2) zH ?_; simp only [lp]
      refine tkx 4 (.pointer (some ⟨g, 3, none⟩)) zH ?_; simp only [lp]
      refine tkx 5 (.pointer (some ⟨g, 5, none⟩)) zH ?_; simp only [lp]
      refine tkx 6 (.string r2) zH ?_ (hy := .inl ⟨by kernel_rfl, fun V hS => by have c5 := hS.c 5 (.string r2) rfl; go_simp⟩); simp only [lp]
      refine tkx 7 (.int .i64 (r2.size : Int)) zH ?_; simp only [lp]
      refine tkx 8 (.int .i64 (m : Int)) zH ?_; simp only [lp]
      refine tkx 9 (.bool false) zH ?_; simp only [lp]
      refine tkx 10 (.bool false) zH ?_; simp only [lp]
      refine tkx 11 (.slice (some ⟨g, 0, none⟩) 2 2) zH ?_; simp only [lp]
      refine tkx 12 (.bool false) zH ?_; simp only [lp]
      refine wpAnyH_done (by kernel_rfl) ?_ _
      go_wp2_with fail
      go_ret2
      exact ⟨hB7.out, .inr ⟨hgood'.out, g, by rw [hokv'.out]; rw [hdm'.out]; rfl, hV7.out⟩⟩

/-- What two levels' answers come to. -/
def comb (a b : Int) : Int := if a = 500 ∨ b = 500 then 600 else if a = 0 ∧ b = 0 then 0 else 602
def hVer (pb msg s : ByteArray) : Int := if pGood pb s ∧ pOk pb s = true then comb (Lms.verify (behT pb 2).data.toList (pLow pb s).data.toList (pOne pb s).data.toList) (Lms.verify (pLow pb s).data.toList msg.data.toList (pTwo pb s).data.toList) else 600
theorem verify_three (a b c : List UInt8) : Lms.verify a b c = 0 ∨ Lms.verify a b c = 500 ∨ Lms.verify a b c = 502 := by
  unfold Lms.verify
  split
  · split
    · split
      · split
        · exact .inl rfl
        · exact .inr (.inr rfl)
      · exact .inr (.inl rfl)
    · exact .inr (.inl rfl)
  · exact .inr (.inl rfl)
def zl : List Value := [.string ⟨#[]⟩, .string ⟨#[]⟩, .string ⟨#[]⟩]
theorem sizeLv : (Tryz.prog.info? 97).map (·.size) = some 3 := by kernel_rfl
theorem lv_new {W W7 : World} {a b c : ByteArray} (h : (W.alloc (.cells zl.toArray 97)).setCells W.heap.size 0 [.string a, .string b, .string c] = W7) : Holds W7 W.heap.size 97 [.string a, .string b, .string c] ∧ Below W.heap.size W W7 := by
  have hH := Holds.new W 97 zl.toArray
  have hb : Below W.heap.size W (W.alloc (.cells zl.toArray 97)) := (Below.refl _ _).alloc (Nat.le_refl _) _
  exact ⟨Holds.over hH rfl h, below_put hb (Nat.le_refl _) h⟩

set_option maxHeartbeats 2000000 in
theorem hVerify_by (pb msg s : ByteArray) (hV1 : ∀ W, Calls Tryz.prog 50 #[.string (behT pb 2), .string (pLow pb s), .string (pOne pb s)] W fun e w' => e = .returned (.int .i64 (Lms.verify (behT pb 2).data.toList (pLow pb s).data.toList (pOne pb s).data.toList)) ∧ Below W.heap.size W w') (hV2 : ∀ W, Calls Tryz.prog 50 #[.string (pLow pb s), .string (msg), .string (pTwo pb s)] W fun e w' => e = .returned (.int .i64 (Lms.verify (pLow pb s).data.toList (msg).data.toList (pTwo pb s).data.toList)) ∧ Below W.heap.size W w') (w : World) : Calls Tryz.prog 26 #[.string pb, .string msg, .string s] w fun e w' => e = .returned (.int .i64 (hVer pb msg s)) ∧ Below w.heap.size w w' := by
  have hP := hid (fun W => hParse_any pb msg s W)
  have h3a := verify_three (behT pb 2).data.toList (pLow pb s).data.toList (pOne pb s).data.toList
  have h3b := verify_three (pLow pb s).data.toList msg.data.toList (pTwo pb s).data.toList
  obtain ⟨R, hR⟩ : ∃ R, hVer pb msg s = R := ⟨_, rfl⟩
  rw [hR]
  unfold hVer at hR
  obtain ⟨va, hva⟩ : ∃ v, Lms.verify (behT pb 2).data.toList (pLow pb s).data.toList (pOne pb s).data.toList = v := ⟨_, rfl⟩
  obtain ⟨vb, hvb⟩ : ∃ v, Lms.verify (pLow pb s).data.toList msg.data.toList (pTwo pb s).data.toList = v := ⟨_, rfl⟩
  have hV1 := hid hV1
  have hV2 := hid hV2
  rw [hva] at hV1 h3a hR
  rw [hvb] at hV2 h3b hR
  obtain ⟨high, hhigh⟩ : ∃ t, behT pb 2 = t := ⟨_, rfl⟩
  obtain ⟨low, hlow⟩ : ∃ t, pLow pb s = t := ⟨_, rfl⟩
  obtain ⟨r1, hr1⟩ : ∃ t, pOne pb s = t := ⟨_, rfl⟩
  obtain ⟨r2, hr2⟩ : ∃ t, pTwo pb s = t := ⟨_, rfl⟩
  rw [hhigh, hlow, hr1, hr2] at hP
  rw [hhigh, hlow, hr1] at hV1
  rw [hlow, hr2] at hV2
  have hR' := hid hR
  have h3 := hid (And.intro h3a h3b)
  have hsl := hid sizeLv
  clear hR hva hvb hhigh hlow hr1 hr2 h3a h3b
  go_enter Tryz.func26, Tryz.ntmps26
  go_wp2_with fail
  refine (hP.out _).mono ?_
  rintro e W1 ⟨hb, h⟩
  have hB1 := hid hb
  clear hb
  unfold PPost at h
  rcases h with ⟨hn, rfl⟩ | ⟨hg, g, rfl, hH⟩
  · have e : R = 600 := by rw [← hR'.out, if_neg (fun h => hn h.1)]
    go_wp2_with fail
    go_ret
    exact ⟨by rw [e]; rfl, hB1.out⟩
  have hH1 := hid hH
  have hg' := hid hg
  clear hH hg
  obtain ⟨ok, hok⟩ : ∃ b, pOk pb s = b := ⟨_, rfl⟩
  rw [hok] at hR' ⊢
  clear hok
  cases ok
  · have e : R = 600 := by rw [← hR'.out, if_neg (fun h => by cases h.2)]
    go_wp2_with fail
    go_ret
    exact ⟨by rw [e]; rfl, hB1.out⟩
  have hRc := hid (show comb va vb = R from by rw [← hR'.out, if_pos ⟨hg'.out, rfl⟩])
  clear hR' hg'
  go_wp2_with fail
  go_loopw [9, 23] (fun an ix wr => ∃ (i : Nat) (A : Int), i ≤ 2 ∧ an = .int .i64 A ∧ ix = .int .i64 (i : Int) ∧ Hid ((i = 0 ∧ A = 0) ∨ (i = 1 ∧ ((va = 0 ∧ A = 0) ∨ (va = 502 ∧ A = 602))) ∨ (i = 2 ∧ A = R)) ∧ Holds wr g 97 (lvC high low r1 low msg r2) ∧ Below w.heap.size w wr) (fun _ ix _ => 2 - (intOf ix).toNat)
  case atStart => exact ⟨0, 0, by omega, rfl, rfl, hid (.inl ⟨rfl, rfl⟩), hH1.out, hB1.out⟩
  case round =>
    obtain ⟨i, A, hi, rfl, rfl, hA, hHr, hBr⟩ := hrel
    have hH0 := hid hHr
    have hB0 := hid hBr
    clear hHr hBr
    rcases (show i = 0 ∨ i = 1 ∨ i = 2 from by omega) with rfl | rfl | rfl
    · skip
      go_wp2_with (first
        | ((with_reducible refine at_slot (some 26) ?_); refine wpList_load_mid rfl 97 (.tmp 25) rfl g 0 rfl [.string high, .string low, .string r1] _ (by exact hH0.out.range 0 _ (fun j hj => by have hj3 : j < 3 := hj; rcases (show j = 0 ∨ j = 1 ∨ j = 2 from by omega) with rfl | rfl | rfl <;> rfl)) Tryz.underlying97 rfl (by exact hsl.out) ?_)
        | ((with_reducible refine at_slot (some 11) ?_); refine wpList_run rfl (.pointer (some ⟨wr.heap.size, 0, none⟩)) (wr.alloc (.cells zl.toArray 97)) (by kernel_rfl) ?_)
        | ((with_reducible refine at_slot none ?_); refine wpList_store_mid rfl 97 (.tmp 11) (.tmp 26) rfl wr.heap.size 0 #[.string high, .string low, .string r1] rfl rfl (by exact (Holds.new wr 97 zl.toArray).there 0 _ (Nat.le_refl 3)) (by exact hsl.out) (by simp [Value.oneCell']) ?_; generalize hW : World.setCells _ _ _ _ = W1; obtain ⟨hN, hb⟩ := lv_new hW; have hH1 := zon hb hH0; have hB1 := zup hb hB0; have hL1 := hid hN; clear hb hH0 hB0 hN; have c0 := hL1.out.c 0 _ rfl; have c1 := hL1.out.c 1 _ rfl; have c2 := hL1.out.c 2 _ rfl; clear hW)
        | fail)
      refine (hV1.out _).mono ?_
      rintro e W2 ⟨rfl, hb⟩
      have hH2 := zon hb hH1
      have hB2 := zup hb hB1
      have hL2 := zon hb hL1
      clear hb hH1 hB1 hL1 c0 c1 c2
      obtain rfl : A = 0 := by rcases hA.out with ⟨_, h⟩ | ⟨h, _⟩ | ⟨h, _⟩ <;> first | exact h | cases h
      rcases h3.out.1 with hz | hz | hz
      · subst hz
        go_wp2_with fail
        go_roundw
        case rel => exact ⟨1, _, by omega, rfl, rfl, hid (by simp), hH2.out, hB2.out⟩
        case measure => simp [intOf]
      · subst hz
        have e : R = 600 := by rw [← hRc.out]; exact if_pos (.inl rfl)
        go_wp2_with fail
        go_ret
        exact ⟨by rw [e]; rfl, hB2.out⟩
      · subst hz
        go_wp2_with fail
        go_roundw
        case rel => exact ⟨1, _, by omega, rfl, rfl, hid (by simp), hH2.out, hB2.out⟩
        case measure => simp [intOf]
    · skip
      go_wp2_with (first
        | ((with_reducible refine at_slot (some 26) ?_); refine wpList_load_mid rfl 97 (.tmp 25) rfl g 3 rfl [.string low, .string msg, .string r2] _ (by exact hH0.out.range 3 _ (fun j hj => by have hj3 : j < 3 := hj; rcases (show j = 0 ∨ j = 1 ∨ j = 2 from by omega) with rfl | rfl | rfl <;> rfl)) Tryz.underlying97 rfl (by exact hsl.out) ?_)
        | ((with_reducible refine at_slot (some 11) ?_); refine wpList_run rfl (.pointer (some ⟨wr.heap.size, 0, none⟩)) (wr.alloc (.cells zl.toArray 97)) (by kernel_rfl) ?_)
        | ((with_reducible refine at_slot none ?_); refine wpList_store_mid rfl 97 (.tmp 11) (.tmp 26) rfl wr.heap.size 0 #[.string low, .string msg, .string r2] rfl rfl (by exact (Holds.new wr 97 zl.toArray).there 0 _ (Nat.le_refl 3)) (by exact hsl.out) (by simp [Value.oneCell']) ?_; generalize hW : World.setCells _ _ _ _ = W1; obtain ⟨hN, hb⟩ := lv_new hW; have hH1 := zon hb hH0; have hB1 := zup hb hB0; have hL1 := hid hN; clear hb hH0 hB0 hN; have c0 := hL1.out.c 0 _ rfl; have c1 := hL1.out.c 1 _ rfl; have c2 := hL1.out.c 2 _ rfl; clear hW)
        | fail)
      refine (hV2.out _).mono ?_
      rintro e W2 ⟨rfl, hb⟩
      have hH2 := zon hb hH1
      have hB2 := zup hb hB1
      have hL2 := zon hb hL1
      clear hb hH1 hB1 hL1 c0 c1 c2
      have hA1 : (va = 0 ∧ A = 0) ∨ (va = 502 ∧ A = 602) := by
        rcases hA.out with ⟨h, _⟩ | ⟨_, h⟩ | ⟨h, _⟩
        · cases h
        · exact h
        · cases h
      rcases h3.out.2 with hz | hz | hz
      · have eA : A = R := by
          rw [← hRc.out]
          rcases hA1 with ⟨h1, h2⟩ | ⟨h1, h2⟩
          · rw [h1, h2, hz]; rfl
          · rw [h1, h2, hz]; rfl
        subst hz
        go_wp2_with fail
        go_roundw
        case rel => exact ⟨2, _, by omega, rfl, rfl, hid (by first | (simp; done) | (simp; exact eA) | exact .inr (.inr ⟨rfl, eA⟩)), hH2.out, hB2.out⟩
        case measure => simp [intOf]
      · have e : R = 600 := by rw [← hRc.out]; exact if_pos (.inr hz)
        subst hz
        go_wp2_with fail
        go_ret
        exact ⟨by rw [e]; rfl, hB2.out⟩
      · have eA : (602 : Int) = R := by
          rw [← hRc.out]
          rcases hA1 with ⟨h1, h2⟩ | ⟨h1, h2⟩
          · rw [h1, hz]; rfl
          · rw [h1, hz]; rfl
        subst hz
        go_wp2_with fail
        go_roundw
        case rel => exact ⟨2, _, by omega, rfl, rfl, hid (by first | (simp; done) | (simp; exact eA) | exact .inr (.inr ⟨rfl, eA⟩)), hH2.out, hB2.out⟩
        case measure => simp [intOf]
    · have eA : A = R := by
        rcases hA.out with ⟨h, _⟩ | ⟨h, _⟩ | ⟨_, h⟩
        · cases h
        · cases h
        · exact h
      go_wp2_with fail
      go_ret
      exact ⟨by rw [← eA]; rfl, hB0.out⟩

theorem hVerify_fine (pb msg s : ByteArray) (hm : msg.size ≤ 140737488351232) (hs : s.size ≤ 140737488351232) (hne : hVer pb msg s ≠ 600) (w : World) : Calls Tryz.prog 26 #[.string pb, .string msg, .string s] w fun e w' => e = .returned (.int .i64 (hVer pb msg s)) ∧ Below w.heap.size w w' := by
  have hbs : (behT s 1).size ≤ 140737488351232 := by
    unfold behT
    split
    · rw [ByteArray.size_extract]; omega
    · exact Nat.zero_le _
  have hc := hne
  unfold hVer at hc
  by_cases hg : pGood pb s ∧ pOk pb s = true
  · rw [if_pos hg] at hc
    exact hVerify_by pb msg s (fun W => Verify_form (behT pb 2) (pLow pb s) (pOne pb s) (by unfold pLow; rw [ByteArray.size_extract]; omega) (fun h => hc (if_pos (.inl h))) W) (fun W => Verify_form (pLow pb s) msg (pTwo pb s) hm (fun h => hc (if_pos (.inr h))) W) w
  · exact absurd (if_neg hg) hc

end Go.Proofs.YtmfajekfipfjpaaGreat
