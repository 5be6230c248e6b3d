/- Layer 4, the reference: digits. -/
import Derived.Test.YtmfajekfipfjpaaGreatLmRn
import Derived.Test.YtmfajekfipfjpaaGreatOtsB
namespace Go.Proofs.YtmfajekfipfjpaaGreat
open Go.RowKit
open Go.Lib (strCells strCells_length strCells_oneCell)
attribute [local irreducible] Sha.compress Sha.blocks Sha.sha Sha.pad
def Nums (w : World) (g : Nat) (l : List Nat) : Prop := ∃ cur fz, w.heap[g]? = some (.cells cur 3 fz) ∧ cur.toList.take l.length = nums l

theorem Nums.lt {w : World} {g : Nat} {l : List Nat} (h : Nums w g l) : g < w.heap.size := by
  obtain ⟨cur, fz, h1, _⟩ := h
  exact (Array.getElem?_eq_some_iff.1 h1).1

theorem Nums.of_block {w w' : World} {g : Nat} {l : List Nat} (h : Nums w g l) (hb : w'.heap[g]? = w.heap[g]?) : Nums w' g l := by
  obtain ⟨cur, fz, h1, h2⟩ := h
  exact ⟨cur, fz, hb.trans h1, h2⟩

theorem Nums.below {w w' : World} {B g : Nat} {l : List Nat} (h : Nums w g l) (hb : Below B w w') (hg : g < B) : Nums w' g l := h.of_block (hb.block g hg)

theorem Nums.cell {w : World} {g : Nat} {l : List Nat} (h : Nums w g l) {k d : Nat} (hk : l[k]? = some d) : w.cell? ⟨g, k, none⟩ = some (.int .i64 (d : Int)) := by
  obtain ⟨cur, fz, h1, h2⟩ := h
  rw [cell_of_row w g k cur 3 fz h1, ← Array.getElem?_toList]
  have hlt : k < l.length := (List.getElem?_eq_some_iff.1 hk).1
  have e : cur.toList[k]? = (cur.toList.take l.length)[k]? := by rw [List.getElem?_take, if_pos hlt]
  rw [e, h2, nums_at, hk]
  rfl

theorem Nums.of_row {w : World} {B g n c : Nat} {l : List Nat} (h : w.ownsRow B 3 1 (.slice (some ⟨g, 0, none⟩) n c) n (nums l)) : Nums w g l := by
  obtain ⟨hl, h2⟩ := h
  rcases h2 with ⟨hv, _⟩ | ⟨g', cap, cur, hv, _, hgg, _, _, _, htake⟩
  · cases hv
  · injection hv with h1 _ _
    injection h1 with h1
    injection h1 with h1 _ _
    subst h1
    rw [nums_length, Nat.mul_one] at hl
    rw [Nat.mul_one, ← hl] at htake
    exact ⟨cur, (0, 0), hgg, htake⟩

/-- A row of numbers of a call's own while it is filled. -/
structure NumR (w wr : World) (v : Value) (n : Nat) (l : List Nat) : Prop where
  row : wr.ownsRow w.heap.size 3 1 v n (nums l)
  b : Below w.heap.size w wr

theorem NumR.below {w wr w' : World} {v : Value} {n : Nat} {l : List Nat} (h : NumR w wr v n l) (hb : Below wr.heap.size wr w') : NumR w w' v n l := by
  refine ⟨⟨h.row.1, ?_⟩, h.b.trans (hb.mono h.b.size)⟩
  rcases h.row.2 with hn | ⟨q, cap, cur, hv, hbq, hq, rest⟩
  · exact .inl hn
  · exact .inr ⟨q, cap, cur, hv, hbq, (hb.block q (Array.getElem?_eq_some_iff.1 hq).1).trans hq, rest⟩

theorem NumR.more {w wr w' : World} {v v' : Value} {n : Nat} {l : List Nat} {d : Nat} (h : NumR w wr v n l) (hR : w'.ownsRow w.heap.size 3 1 v' (n + 1) (nums l ++ [.int .i64 (d : Int)])) (hg : wr.grownBy w' v.ownBlock) : NumR w w' v' (n + 1) (l ++ [d]) := by
  refine ⟨?_, h.b.grown hg h.b.size (fun k e => (h.row.lt k e).1)⟩
  have e : nums (l ++ [d]) = nums l ++ [.int .i64 (d : Int)] := by unfold nums; rw [List.map_append]; rfl
  rw [e]
  exact hR

theorem pow_small {k : Nat} (h : k ≤ 8) : (0 : Int) < 2 ^ k ∧ (2 : Int) ^ k ≤ 256 := by
  rcases nine h with rfl | rfl | rfl | rfl | rfl | rfl | rfl | rfl | rfl <;> decide

theorem top_int (o : Ots.Par) (h : o.w ≤ 8) : (2 : Int) ^ o.w = (o.top : Int) + 1 := by
  unfold Ots.Par.top
  rcases nine h with e | e | e | e | e | e | e | e | e <;> rw [e] <;> rfl

theorem chk_none (o : Ots.Par) (q : List UInt8) (m : Nat) (c : List UInt8) : chk o q m c 0 = sofar o q m := by simp [chk]

set_option maxRecDepth 100000 in
set_option maxHeartbeats 2000000 in
theorem rDigits_any (kind : Int) (o : Ots.Par) (m : Nat) (hpar : Ots.par kind = some o) (ho : ParOk o m) (head salt msg : ByteArray) (w : World) (hh : head.size ≤ 1000) (hs : salt.size ≤ 1000) (hm : msg.size ≤ 1000000) :
    Calls Tryz.prog 75 #[.int .i64 kind, .string head, .string salt, .string msg] w fun e w' => ∃ g c, e = .returned (.slice (some ⟨g, 0, none⟩) o.p c) ∧ w.heap.size ≤ g ∧
      Nums w' g (Ots.digits o head.data.toList salt.data.toList msg.data.toList) ∧ Below w.heap.size w w' := by
  obtain ⟨i0, hi0, hz0, hz1, hz2⟩ := info_parts Tryz.infoIntD
  have hans : refPar kind = .tuple #[.int .i64 (o.w : Int), .int .i64 (o.p : Int), .int .i64 (o.ls : Int)] := by unfold refPar; rw [hpar]
  have hans' := hid hans
  obtain ⟨X, hX⟩ : ∃ X : ByteArray, head ++ ⟨#[129, 129]⟩ ++ salt ++ msg = X := ⟨_, rfl⟩
  have h2 : (⟨#[129, 129]⟩ : ByteArray).size = 2 := rfl
  have hXl : X.data.toList = head.data.toList ++ [0x81, 0x81] ++ salt.data.toList ++ msg.data.toList := by
    rw [← hX]
    simp only [ByteArray.data_append, Array.toList_append]
  have hXs : X.size ≤ 1002002 := by
    rw [← hX, ByteArray.size_append, ByteArray.size_append, ByteArray.size_append, h2]
    omega
  have z1 : head.size + (⟨#[129, 129]⟩ : ByteArray).size ≤ 9223372036854775807 := by rw [h2]; omega
  have z2 : (head ++ ⟨#[129, 129]⟩).size + salt.size ≤ 9223372036854775807 := by rw [ByteArray.size_append, h2]; omega
  have z3 : (head ++ ⟨#[129, 129]⟩ ++ salt).size + msg.size ≤ 9223372036854775807 := by rw [ByteArray.size_append, ByteArray.size_append, h2]; omega
  obtain ⟨q, hq⟩ : ∃ q, Sha.sha (head.data.toList ++ [0x81, 0x81] ++ salt.data.toList ++ msg.data.toList) = q := ⟨_, rfl⟩
  have hq32 : q.length = 32 := by rw [← hq]; exact sha_len32 _
  have hdg : Ots.digits o head.data.toList salt.data.toList msg.data.toList = Ots.digitsOf o q := by unfold Ots.digits; rw [hq]
  rw [hdg, digits_eq o m ho.m0]
  have hrH := hid (fun W => rH_any X W (by omega))
  rw [hXl, hq] at hrH
  have hdq := hid (fun (i : Nat) (hi : i < m) W => refDigit_any (txt q) i o.w (by rw [txt_size, hq32]; exact ho.fst i hi) W)
  have hd2 := hid (fun (n i : Nat) (hi : i < o.p - m) W => refDigit_any (be 2 n) i o.w (by rw [be_size]; exact ho.snd i hi) W)
  have ho' := hid ho
  have hp100 := ho.p100
  have hw1 := ho.w1
  have hw8 := ho.w8
  have hmp := ho.mp
  have htop : o.top ≤ 255 := by
    have := Nat.pow_le_pow_right (n := 2) (by omega) hw8
    unfold Ots.Par.top
    omega
  obtain ⟨hp1, hp2⟩ := pow_small hw8
  have hti := hid (top_int o hw8)
  have hq1 : (256 : Int) / (o.w : Int) = (m : Int) := by rw [← ho'.out.m0]; rfl
  have hq2 : (256 : Int).tdiv (o.w : Int) = (m : Int) := by rw [← ho'.out.m0]; rfl
  have hw0 : ¬ (o.w : Int) = 0 := by omega
  clear ho hq hdg hXl hans hpar
  go_enter Tryz.func75, Tryz.ntmps75
  go_wp2_with fail
  refine (Params_any kind _).mono ?_
  rintro e W2 ⟨rfl, rfl⟩
  rw [hans'.out]
  rename_i hK1
  refine hK1 _ _ ?_
  clear hK1
  go_wp2_with fail
  refine (hrH.out _).mono ?_
  rintro e W3 ⟨rfl, hb3⟩
  have hN3 : NumR W2 W3 (.slice none 0 0) 0 [] := ⟨⟨rfl, .inl ⟨rfl, rfl⟩⟩, hb3⟩
  have hN3' := hid hN3
  clear hN3 hb3
  go_wp2_with fail
  go_loopw [13, 14, 15] (fun out s i wr => ∃ (k : Nat), k ≤ m ∧ i = .int .i64 (k : Int) ∧ s = .int .i64 (Ots.left o (sofar o q k) : Int) ∧ NumR W2 wr out k (sofar o q k)) (fun _ _ i _ => m - (intOf i).toNat)
  case atStart => exact ⟨0, Nat.zero_le _, rfl, rfl, hN3'.out⟩
  case round =>
    obtain ⟨k, hk, rfl, rfl, hN⟩ := hrel
    have hll := left_le o q k htop
    by_cases hlt : k < m
    · have hkm : (k : Int) < (m : Int) := by omega
      have hk0 : (0 : Int) ≤ (k : Int) := by omega
      have hsum := hid (left_next o q k)
      have hnx := hid (sofar_next o q k)
      have hdt := digit_top o q k
      have hm100 : m ≤ 100 := by omega
      have hdk := hid (fun W => hdq.out k hlt W)
      rw [txt_list] at hdk
      have hN' := hid hN
      clear hN
      generalize Ots.digit q k o.w = d at *
      generalize Ots.left o (sofar o q k) = S at *
      go_wp2_with fail
      refine (hdk.out _).mono ?_
      rintro e w' ⟨rfl, mm, rfl⟩
      have hbd : Below wr.heap.size wr (wr.drewN mm) := ⟨rfl, rfl, rfl, Nat.le_refl _, fun _ _ => rfl⟩
      have hN5 := hid (hN'.out.below hbd)
      clear hbd
      generalize World.drewN wr mm = W5 at *
      go_wp2_with ((with_reducible refine at_slot (some 52) ?_); refine wpList_append_lies _ rfl (.tmp 49) (.tmp 51) 116 rfl W2.heap.size 3 i0 (.int .i64 0) 1 8 Tryz.underlying116 hi0 hz0 hz1 hz2 rfl (by omega) u13 k _ rfl (hN5.out.below ((Below.refl _ _).alloc (Nat.le_refl _) _)).row ⟨W5.heap.size, 0, none⟩ 1 1 [.int .i64 (d : Int)] rfl rfl (World.news_of_block (heap_alloc_new W5 _)) (by simp [Value.oneCell']) (by omega) (by unfold maxLen; omega) (by omega) (by have := hN5.out.b.size; simp; omega) _ rfl ?_)
      intro g cap W6 hR6 hg6 _ _
      have hN6 := hid ((hN5.out.below ((Below.refl _ _).alloc (Nat.le_refl _) _)).more hR6 hg6)
      clear hR6 hg6
      go_wp2_with fail
      go_roundw
      case rel => exact ⟨k + 1, by omega, by go_num, by rw [hsum.out]; exact congrArg (Value.int .i64) (by have := hti.out; omega), by rw [hnx.out]; exact hN6.out⟩
      case measure => simp [intOf]; omega
    · obtain rfl : k = m := by omega
      have hk1 : 1 ≤ k := by
        have := ho'.out.m0
        rw [← this]
        exact Nat.div_pos (by omega) (by omega)
      have hl4 := ho'.out.l4
      have h2p : 2 ^ o.ls ≤ 16 := Nat.pow_le_pow_right (n := 2) (by omega) hl4
      have hmul : Ots.left o (sofar o q k) * 2 ^ o.ls ≤ 25500 * 16 := Nat.mul_le_mul (by omega) h2p
      obtain ⟨g, c, rfl, _⟩ := hN.row.form (by omega)
      have hN' := hid hN
      clear hN
      generalize hS : Ots.left o (sofar o q k) = S at *
      have hcast : (S : Int) * 2 ^ o.ls = ((S * 2 ^ o.ls : Nat) : Int) := by
        rw [Int.natCast_mul, Int.natCast_pow]
        rfl
      have hshl := IntWalk.i64_in ((S : Int) * 2 ^ o.ls) (by omega)
      have hbe := hid (fun W => Be_any ((S : Int) * 2 ^ o.ls) 2 2 rfl (by decide) (S * 2 ^ o.ls) hcast (by omega) W)
      obtain ⟨N, hNe⟩ : ∃ N, S * 2 ^ o.ls = N := ⟨_, rfl⟩
      rw [hNe] at hcast hbe hmul
      have hNe' := hid hNe
      clear hNe
      have hcast' := hid hcast
      clear hcast
      go_wp2_with fail
      refine (hbe.out _).mono ?_
      rintro e W8 ⟨rfl, hb8⟩
      have hN8 := hid (hN'.out.below hb8)
      clear hb8 hshl
      go_wp2_with fail
      go_loopw [13, 18] (fun out i wr => ∃ (j g c : Nat), j ≤ o.p - k ∧ i = .int .i64 (j : Int) ∧ out = .slice (some ⟨g, 0, none⟩) (k + j) c ∧ NumR W2 wr (.slice (some ⟨g, 0, none⟩) (k + j) c) (k + j) (chk o q k (beL 2 N) j)) (fun _ i _ => o.p - k - (intOf i).toNat)
      case atStart => exact ⟨0, g, c, Nat.zero_le _, rfl, rfl, by rw [chk_none]; exact hN8.out⟩
      case round =>
        obtain ⟨j, g1, c1, hj, rfl, rfl, hN⟩ := hrel
        have hN9 := hid hN
        clear hN
        by_cases hlt2 : k + j < o.p
        · have hlt' : ((k + j : Nat) : Int) < (o.p : Int) := by omega
          have hj0 : (0 : Int) ≤ (j : Int) := by omega
          have hnx := hid (chk_next o q k (beL 2 N) j)
          have hdd := hid (fun W => hd2.out N j (by omega) W)
          have he : (be 2 N).data.toList = beL 2 N := rfl
          rw [he] at hdd
          have hsz : k + j + 1 = k + (j + 1) := by omega
          have hsz' := hid hsz
          clear hsz
          generalize Ots.digit (beL 2 N) j o.w = d at *
          go_wp2_with fail
          refine (hdd.out _).mono ?_
          rintro e w' ⟨rfl, mm, rfl⟩
          have hbd : Below wr.heap.size wr (wr.drewN mm) := ⟨rfl, rfl, rfl, Nat.le_refl _, fun _ _ => rfl⟩
          have hN10 := hid (hN9.out.below hbd)
          clear hbd
          generalize World.drewN wr mm = W10 at *
          go_wp2_with ((with_reducible refine at_slot (some 69) ?_); refine wpList_append_lies _ rfl (.tmp 63) (.tmp 68) 116 rfl W2.heap.size 3 i0 (.int .i64 0) 1 8 Tryz.underlying116 hi0 hz0 hz1 hz2 rfl (by omega) _ (k + j) _ rfl (hN10.out.below ((Below.refl _ _).alloc (Nat.le_refl _) _)).row ⟨W10.heap.size, 0, none⟩ 1 1 [.int .i64 (d : Int)] rfl rfl (World.news_of_block (heap_alloc_new W10 _)) (by simp [Value.oneCell']) (by omega) (by unfold maxLen; omega) (by omega) (by have := hN10.out.b.size; simp; omega) _ rfl ?_)
          intro g2 c2 W11 hR11 hg11 _ _
          have hN11 := (hN10.out.below ((Below.refl _ _).alloc (Nat.le_refl _) _)).more hR11 hg11
          rw [← hnx.out, hsz'.out] at hN11
          have hN11' := hid hN11
          clear hR11 hg11 hN11
          rw [hsz'.out]
          go_wp2_with fail
          go_roundw
          case rel => exact ⟨j + 1, g2, c2, by omega, by go_num, rfl, hN11'.out⟩
          case measure => simp [intOf]; omega
        · obtain rfl : j = o.p - k := by omega
          have e1 : k + (o.p - k) = o.p := by omega
          have hno : ¬ ((o.p : Nat) : Int) < (o.p : Int) := by omega
          have hNl := hid (Nums.of_row hN9.out.row)
          have hge := (hN9.out.row.lt g1 rfl).1
          have hbl := hid hN9.out.b
          have hge' := hid hge
          clear hge hN9
          rw [e1] at *
          clear e1
          go_wp2_with fail
          go_ret
          exact ⟨g1, ⟨c1, rfl⟩, hge'.out, by rw [hNe'.out]; exact hNl.out, hbl.out⟩

end Go.Proofs.YtmfajekfipfjpaaGreat
