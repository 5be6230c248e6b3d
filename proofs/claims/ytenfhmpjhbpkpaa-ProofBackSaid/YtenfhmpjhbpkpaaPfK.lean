/- Layer 10, the program's side: Inclusion, Consistency.
   Layer 10, the program's side: the way up.
   Layer 10, the program's side: CheckInclusion.
   Layer 10: what a check of a beginning answers.
   Layer 10: what is proved is taken, plain. -/
import Derived.Test.YtenfhmpjhbpkpaaPfA
namespace Go.Proofs.Ytenfhmpjhbpkpaa
open Go.RowKit
open Go.Lib (strCells strCells_length strCells_oneCell)
attribute [local irreducible] Sha.compress Sha.blocks Sha.sha Sha.pad

theorem way_spec (stop : Nat → Nat → Bool) : ∀ (f m lo hi : Nat), (∀ a b, a < m → m ≤ b → stop a b = false → 2 ≤ b - a) → lo < m → m ≤ hi →
    (∀ t ∈ (Mth.way stop f m lo hi).1, t.lo < t.hi ∧ t.hi ≤ hi) ∧ (Mth.way stop f m lo hi).1.length ≤ f ∧ lo ≤ (Mth.way stop f m lo hi).2.1 ∧ (Mth.way stop f m lo hi).2.1 < m ∧ m ≤ (Mth.way stop f m lo hi).2.2 ∧ (Mth.way stop f m lo hi).2.2 ≤ hi
  | 0, m, lo, hi, hst, h1, h2 => ⟨(fun t ht => by cases ht), Nat.le_refl _, Nat.le_refl _, h1, h2, Nat.le_refl _⟩
  | f + 1, m, lo, hi, hst, h1, h2 => by
    by_cases hs : stop lo hi = true
    · simp only [Mth.way, hs, if_true]
      exact ⟨(fun t ht => by cases ht), Nat.zero_le _, Nat.le_refl _, h1, h2, Nat.le_refl _⟩
    · have hs' : stop lo hi = false := by simpa using hs
      obtain ⟨k1, k2, -, -⟩ := Mth.cut_spec (hi - lo) (hst lo hi h1 h2 hs')
      by_cases hm : m ≤ lo + Mth.cut (hi - lo)
      · obtain ⟨i1, i2, i3, i4, i5, i6⟩ := way_spec stop f m lo (lo + Mth.cut (hi - lo)) hst h1 hm
        simp only [Mth.way, hs', Bool.false_eq_true, if_false, if_pos hm, List.length_append, List.length_singleton]
        refine ⟨fun t ht => ?_, by omega, i3, i4, i5, by omega⟩
        rcases List.mem_append.1 ht with h | h
        · have := i1 t h
          exact ⟨this.1, by omega⟩
        · obtain rfl := List.mem_singleton.1 h
          exact ⟨by show lo + _ < hi; omega, Nat.le_refl _⟩
      · obtain ⟨i1, i2, i3, i4, i5, i6⟩ := way_spec stop f m (lo + Mth.cut (hi - lo)) hi hst (by omega) h2
        simp only [Mth.way, hs', Bool.false_eq_true, if_false, if_neg hm, List.length_append, List.length_singleton]
        refine ⟨fun t ht => ?_, by omega, by omega, i4, i5, i6⟩
        rcases List.mem_append.1 ht with h | h
        · exact i1 t h
        · obtain rfl := List.mem_singleton.1 h
          exact ⟨by show lo < lo + _; omega, by show lo + _ ≤ hi; omega⟩

def leafB (a b : Nat) : Bool := decide (b - a = 1)
def endB (m : Nat) (_ b : Nat) : Bool := decide (b = m)

theorem leafB_two (m : Nat) : ∀ a b, a < m → m ≤ b → leafB a b = false → 2 ≤ b - a := by
  intro a b h1 h2 h3
  have := of_decide_eq_false h3
  omega

theorem endB_two (m : Nat) : ∀ a b, a < m → m ≤ b → endB m a b = false → 2 ≤ b - a := by
  intro a b h1 h2 h3
  have := of_decide_eq_false h3
  omega

theorem asks_leaf (w : World) : Asks 49 #[] leafB w := fun W lo hi _ h1 h2 => isLeaf_any lo hi h1 h2 W

theorem asks_end (m B : Nat) (w : World) (hc : w.cell? ⟨B, 0, none⟩ = some (.int .i64 (m : Int))) : Asks 65 #[.pointer (some ⟨B, 0, none⟩)] (endB m) w := fun W lo hi hW _ _ =>
  endsAt1_any m lo hi B W ((hW.cell (p := ⟨B, 0, none⟩) (World.block_lt_of_cell? w ⟨B, 0, none⟩ hc)).trans hc)

/-- The path of a leaf; its error. -/
def incOk (xs : List ByteArray) (i : Int) : Prop := xs.length ≤ 256 ∧ 0 ≤ i ∧ i < (xs.length : Int)
instance incD (xs : List ByteArray) (i : Int) : Decidable (incOk xs i) := by unfold incOk; exact inferInstance
def incL (xs : List ByteArray) (i : Int) : List (List UInt8) := if incOk xs i then Mth.pathOf rootH i.toNat xs else []
def incE (xs : List ByteArray) (i : Int) : Int := if incOk xs i then 0 else 1000

/-- The proof of a beginning; its error. -/
def conOk (xs : List ByteArray) (m : Int) : Prop := xs.length ≤ 256 ∧ 1 ≤ m ∧ m ≤ (xs.length : Int)
instance conD (xs : List ByteArray) (m : Int) : Decidable (conOk xs m) := by unfold conOk; exact inferInstance
def conL (xs : List ByteArray) (m : Int) : List (List UInt8) := if conOk xs m then Mth.subOf rootH m.toNat xs true else []
def conE (xs : List ByteArray) (m : Int) : Int := if conOk xs m then 0 else 1000

theorem path_roots (xs : List ByteArray) (i : Nat) (h : i < xs.length) : rootsH xs (Mth.way leafB xs.length (i + 1) 0 xs.length).1 = Mth.pathOf rootH i xs := by
  have := Mth.way_path rootH xs.length i 0 xs.length xs (Nat.le_refl _) (by omega) (by omega) (by omega)
  rw [Nat.zero_add, Mth.seg_all] at this
  exact this

theorem sub_roots (xs : List ByteArray) (m : Nat) (h1 : 1 ≤ m) (h : m ≤ xs.length) : (if 0 < (Mth.way (endB m) xs.length m 0 xs.length).2.1 then [rootH (Mth.seg xs (Mth.way (endB m) xs.length m 0 xs.length).2.1 (Mth.way (endB m) xs.length m 0 xs.length).2.2)] else []) ++ rootsH xs (Mth.way (endB m) xs.length m 0 xs.length).1 = Mth.subOf rootH m xs true := by
  have := Mth.way_sub rootH xs.length m 0 xs.length xs (Nat.le_refl _) (by omega) h (by omega)
  rw [Nat.sub_zero, Mth.seg_all, decide_eq_true rfl] at this
  exact this

theorem rootsH_len (xs : List ByteArray) (ts : List Mth.Turn) : ∀ x ∈ rootsH xs ts, x.length = 32 := by
  intro x hx
  obtain ⟨t, _, rfl⟩ := List.mem_map.1 hx
  exact rootH_len _

theorem incL_len (xs : List ByteArray) (i : Int) : ∀ x ∈ incL xs i, x.length = 32 := by
  intro x hx
  unfold incL at hx
  split at hx
  · rename_i h
    rw [← path_roots xs i.toNat (by have := h.2.1; have := h.2.2; omega)] at hx
    exact rootsH_len _ _ x hx
  · cases hx

theorem conL_len (xs : List ByteArray) (m : Int) : ∀ x ∈ conL xs m, x.length = 32 := by
  intro x hx
  unfold conL at hx
  split at hx
  · rename_i h
    rw [← sub_roots xs m.toNat (by have := h.2.1; omega) (by have := h.2.2; omega)] at hx
    rcases List.mem_append.1 hx with hx | hx
    · split at hx
      · obtain rfl := List.mem_singleton.1 hx
        exact rootH_len _
      · cases hx
    · exact rootsH_len _ _ x hx
  · cases hx

theorem Hashs.of_own {w : World} {base n c : Nat} {A : Option Addr} {hs : List (List UInt8)} (h : w.ownsRow base 28 32 (.slice A n c) n (hashCells hs)) (hl : ∀ x ∈ hs, x.length = 32) : Hashs w w.heap.size A n hs := ⟨At.of_own h, hl⟩

theorem Hashs.nil_ (w : World) (B : Nat) : Hashs w B none 0 [] := ⟨⟨rfl, .inl rfl⟩, fun x hx => by cases hx⟩

theorem own_nil {w : World} {B sz n c : Nat} {e : TypeId} {cs : List Value} (h : w.ownsRow B e sz (.slice none n c) n cs) : c = 0 := by
  rcases h.2 with ⟨he, _⟩ | ⟨g, cap, cur, he, _⟩
  · injection he
  · injection he with h1
    cases h1

set_option maxRecDepth 100000 in
set_option maxHeartbeats 2000000 in
theorem pInclusion_any (A : Option Addr) (n c : Nat) (xs : List ByteArray) (i : Int) (w : World) (hX : Texts w w.heap.size A n xs) (hnc : n ≤ c) (hs : ∀ s ∈ xs, s.size ≤ 140737488351232) :
    Calls Try.prog 27 #[.slice A n c, .int .i64 i] w fun e w' => ∃ A' c', e = .returned (.tuple #[.slice A' (incL xs i).length c', .int .i64 (incE xs i)]) ∧ Hashs w' w'.heap.size A' (incL xs i).length (incL xs i) ∧ (incL xs i).length ≤ c' ∧ (A' = none → c' = 0) ∧ (incL xs i).length ≤ 256 ∧ Below w.heap.size w w' := by
  have hl := hX.len
  by_cases hok : incOk xs i
  · obtain ⟨h1, h2, h3⟩ := id hok
    have e1 : incL xs i = Mth.pathOf rootH i.toNat xs := if_pos hok
    have e2 : incE xs i = 0 := if_pos hok
    have hll := incL_len xs i
    rw [e1] at hll
    rw [e1, e2]
    obtain ⟨k, rfl⟩ : ∃ k : Nat, i = k := ⟨i.toNat, by omega⟩
    rw [Int.toNat_natCast] at hll ⊢
    obtain ⟨W, hW⟩ : ∃ W, Mth.way leafB n (k + 1) 0 n = W := ⟨_, rfl⟩
    obtain ⟨w1, w2, -, -, -, -⟩ := way_spec leafB n (k + 1) 0 n (leafB_two _) (by omega) (by omega)
    have hdn := hid (down_any (k + 1) n 49 #[] leafB w (by omega) (by omega) (by omega) (enters_of Try.func49 (by kernel_rfl) rfl) (asks_leaf w) (leafB_two _))
    have hpr := path_roots xs k (by omega)
    rw [hl, hW] at hpr
    rw [hW] at hdn w1 w2
    have hpl : (Mth.pathOf rootH k xs).length = W.1.length := by rw [← hpr]; simp [rootsH]
    have ek : ((k + 1 : Nat) : Int) = (k : Int) + 1 := by omega
    rw [ek] at hdn
    rw [hpl]
    rw [← hpr] at hll ⊢
    have w1' := hid w1
    have hll' := hid hll
    have hs' := hid hs
    have hX' := hid hX
    have c1 : ¬ (256 : Int) < (n : Int) := by omega
    have c2 : ¬ (k : Int) < 0 := by omega
    have c3 : ¬ (n : Int) ≤ (k : Int) := by omega
    have c4 := IntWalk.i64_in ((k : Int) + 1) (by omega)
    have hn : n ≤ 1000 := by omega
    clear hok e1 e2 hll hpr hpl ek w1 hs hX hl h1 h2 h3
    go_enter Try.func27, Try.ntmps27
    go_wp2_with fail
    refine hdn.out.mono ?_
    rintro e W1 ⟨A1, d1, rfl, hat1, hb1⟩
    have hb2 := hid (hb1.alloc hb1.size (.cells #[.int .i64 (W.2.1 : Int), .int .i64 (W.2.2 : Int)] 72))
    have hat2 := hid ((At.alloc hat1 (Nat.le_refl _) (.cells #[.int .i64 (W.2.1 : Int), .int .i64 (W.2.2 : Int)] 72)).more (show _ ≤ (W1.alloc (.cells #[.int .i64 (W.2.1 : Int), .int .i64 (W.2.2 : Int)] 72)).heap.size from by simp))
    have hX2 := hid ((hX'.out.below hb2.out).more hb2.out.size)
    clear hb1 hat1
    unfold spanV
    go_wp2_with fail
    refine (roots_any A n c xs A1 W.1.length d1 W.1 _ hX2.out hnc hn hs'.out hat2.out rfl (by omega) w1'.out).mono ?_
    rintro e W3 ⟨A3, c3, rfl, hrow3, hb3⟩
    have hb3' := hid (below_up hb3 hb2.out)
    have hcap := own_cap hrow3
    have hrow3' := hid hrow3
    clear hb3 hrow3
    go_wp2_with fail
    go_ret2
    have hrl : (rootsH xs W.1).length = W.1.length := by simp [rootsH]
    exact ⟨A3, c3, rfl, Hashs.of_own hrow3'.out hll'.out, hcap, (fun h => by subst h; exact own_nil hrow3'.out), by omega, hb3'.out⟩
  · have e1 : incL xs i = [] := if_neg hok
    have e2 : incE xs i = 1000 := if_neg hok
    rw [e1, e2]
    have hno : 256 < n ∨ i < 0 ∨ (n : Int) ≤ i := by
      unfold incOk at hok
      omega
    clear e1 e2 hok hs
    by_cases c1 : (256 : Int) < (n : Int)
    · go_enter Try.func27, Try.ntmps27
      go_wp2_with fail
      go_ret2
      first | exact ⟨none, 0, rfl, Hashs.nil_ _ _, fun _ => rfl, Below.refl _ _⟩ | exact ⟨none, 0, rfl, Hashs.nil_ _ _, Nat.zero_le _, fun _ => rfl, Nat.zero_le _, Below.refl _ _⟩
    · by_cases c2 : i < 0
      · go_enter Try.func27, Try.ntmps27
        go_wp2_with fail
        go_ret2
        first | exact ⟨none, 0, rfl, Hashs.nil_ _ _, fun _ => rfl, Below.refl _ _⟩ | exact ⟨none, 0, rfl, Hashs.nil_ _ _, Nat.zero_le _, fun _ => rfl, Nat.zero_le _, Below.refl _ _⟩
      · have c3 : (n : Int) ≤ i := by omega
        go_enter Try.func27, Try.ntmps27
        go_wp2_with fail
        go_ret2
        first | exact ⟨none, 0, rfl, Hashs.nil_ _ _, fun _ => rfl, Below.refl _ _⟩ | exact ⟨none, 0, rfl, Hashs.nil_ _ _, Nat.zero_le _, fun _ => rfl, Nat.zero_le _, Below.refl _ _⟩

set_option maxRecDepth 100000 in
set_option maxHeartbeats 2000000 in
theorem pConsistency_any (A : Option Addr) (n c : Nat) (xs : List ByteArray) (i : Int) (w : World) (hX : Texts w w.heap.size A n xs) (hnc : n ≤ c) (hs : ∀ s ∈ xs, s.size ≤ 140737488351232) :
    Calls Try.prog 34 #[.slice A n c, .int .i64 i] w fun e w' => ∃ A' c', e = .returned (.tuple #[.slice A' (conL xs i).length c', .int .i64 (conE xs i)]) ∧ Hashs w' w'.heap.size A' (conL xs i).length (conL xs i) ∧ (conL xs i).length ≤ c' ∧ (A' = none → c' = 0) ∧ (conL xs i).length ≤ 257 ∧ Below w.heap.size w w' := by
  have hl := hX.len
  by_cases hok : conOk xs i
  · obtain ⟨h1, h2, h3⟩ := id hok
    have e1 : conL xs i = Mth.subOf rootH i.toNat xs true := if_pos hok
    have e2 : conE xs i = 0 := if_pos hok
    have hll := conL_len xs i
    rw [e1] at hll
    rw [e1, e2]
    obtain ⟨m, rfl⟩ : ∃ k : Nat, i = k := ⟨i.toNat, by omega⟩
    rw [Int.toNat_natCast] at hll ⊢
    obtain ⟨W, hW⟩ : ∃ W, Mth.way (endB m) n m 0 n = W := ⟨_, rfl⟩
    obtain ⟨w1, w2, w3, w4, w5, w6⟩ := way_spec (endB m) n m 0 n (endB_two _) (by omega) (by omega)
    have hdn := hid (fun W' B (hc : W'.cell? ⟨B, 0, none⟩ = some (.int .i64 (m : Int))) => down_any m n 65 #[.pointer (some ⟨B, 0, none⟩)] (endB m) W' (by omega) (by omega) (by omega) (enters_of Try.func65 (by kernel_rfl) rfl) (asks_end m B W' hc) (endB_two _))
    have hpr := sub_roots xs m (by omega) (by omega)
    rw [hl, hW] at hpr
    rw [hW] at hdn w1 w2 w3 w4 w5 w6
    rw [← hpr] at hll ⊢
    have w1' := hid w1
    have hll' := hid hll
    have hs' := hid hs
    have hX' := hid hX
    obtain ⟨ts, lo, hi⟩ := W
    dsimp only at w1' w2 w3 w4 w5 w6 hll' hdn ⊢
    have c1 : ¬ (256 : Int) < (n : Int) := by omega
    have c2 : ¬ (m : Int) < 1 := by omega
    have c3 : ¬ (n : Int) < (m : Int) := by omega
    have hn : n ≤ 1000 := by omega
    have hrl : (rootsH xs ts).length = ts.length := by simp [rootsH]
    have hrl' := hid hrl
    obtain ⟨i0, hi0, hz0, hz1, hz2⟩ := info_parts Try.infoHashD
    obtain ⟨p, rfl⟩ : ∃ p, A = some p := by
      obtain ⟨p, e, -⟩ := hX'.out.get (show 0 < n by omega)
      exact ⟨p, e⟩
    have l0 : (0 : Int) ≤ (lo : Int) := by omega
    have l1 : (lo : Int) ≤ (hi : Int) := by omega
    have l2 : (hi : Int) ≤ (c : Int) := by omega
    have l3 : ¬ c = lo := by omega
    have l4 : (lo : Int).toNat = lo := by omega
    have l5 : (hi : Int).toNat = hi := by omega
    have hro := hid (fun W (hW : Below w.heap.size w W) => mRoot_any (some (p.add lo)) (hi - lo) (c - lo) (Mth.seg xs lo hi) W (((hX'.out.below hW).part (show lo < hi by omega) (by omega)).more hW.size) (by omega) (fun s hm => hs'.out s (List.mem_of_mem_take (List.mem_of_mem_drop hm))))
    have hC := hid (hash_root (Mth.seg xs lo hi))
    have hone := hid (byteCells_one (rootH (Mth.seg xs lo hi)))
    have hcs1 := hid (hashCells_one (rootH (Mth.seg xs lo hi)))
    clear hok e1 e2 hll hpr w1 hs hX hl h1 h2 h3 hrl hW
    by_cases h0 : 0 < lo
    · have h0i : (0 : Int) < (lo : Int) := by omega
      rw [if_pos h0] at hll' ⊢
      unfold hv at hro
      generalize hcs : byteCells (rootH (Mth.seg xs lo hi)) = cs at *
      have hcs' := hid hcs
      clear hcs
      go_enter Try.func34, Try.ntmps34
      go_wp2_with (go_at_call 55; refine (endsAt_any m _).mono ?_; rintro e w' ⟨rfl, rfl⟩)
      have hb0 := hid ((Below.refl w.heap.size w).alloc (Nat.le_refl _) (.cells #[.int .i64 (m : Int)] 3))
      refine (hdn.out (w.alloc (.cells #[.int .i64 (m : Int)] 3)) w.heap.size (by simp)).mono ?_
      rintro e W1 ⟨A1, d1, rfl, hat1, hb1⟩
      have hb1' := hid (below_up hb1 hb0.out)
      have hb2 := hid (hb1'.out.alloc hb1'.out.size (.cells #[.int .i64 (lo : Int), .int .i64 (hi : Int)] 72))
      have hat2 := hid ((At.alloc hat1 (Nat.le_refl _) (.cells #[.int .i64 (lo : Int), .int .i64 (hi : Int)] 72)).more (show _ ≤ (W1.alloc (.cells #[.int .i64 (lo : Int), .int .i64 (hi : Int)] 72)).heap.size from by simp))
      clear hb1 hat1
      unfold spanV
      go_wp2_with fail
      refine (hro.out _ hb2.out).mono ?_
      rintro e W3 ⟨rfl, hb3⟩
      have hb3' := hid (below_up hb3 hb2.out)
      have hw3 : w.heap.size ≤ W3.heap.size := hb3'.out.size
      have hat3 := hid (hat2.out.below hb3)
      have hsz3 := hid hb3.size
      clear hb3 hat2
      rename_i hK1
      refine hK1 _ _ ?_
      clear hK1
      go_wp2_with (first
        | ((with_reducible refine at_slot (some 42) ?_); refine wpList_buildSlice_one rfl 41 28 (.tmp 41) rfl i0 _ Try.underlying41 hi0 hz0 cs.toArray rfl (by rw [hz1, List.size_toArray, hC.out.len]) (by rw [List.size_toArray, hC.out.len]; decide) (by rw [List.size_toArray, hC.out.len]; decide) ?_)
        | ((with_reducible refine at_slot (some 43) ?_); refine wpList_appends rfl (.tmp 34) (.tmp 42) 41 28 rfl w.heap.size i0 _ 32 32 Try.underlying41 hi0 hz0 hz1 hz2 (by decide) (by decide) none 0 0 [] (W3.heap.size + 1) (some ⟨W3.heap.size, 0, none⟩) 1 1 cs rfl rfl (fun h => by cases h) (by exact hone.out) (by omega) (by omega) (by exact World.ownsRow_nil _ _ _ _) (by exact At.of_holds (Holds.new W3 28 cs.toArray) hC.out.len (Nat.lt_succ_self _)) (by simp; omega) ?_; intro A5 c5 W5 hrow5 hb5 hg5; have hb5' := hid ((hb3'.out.alloc hb3'.out.size _).trans hb5); have hrow5' := hid hrow5; have hat5 := hid (At.keep (At.alloc (hat3.out.more hsz3.out) (Nat.le_refl _) (.cells cs.toArray 28)) (fun q hq => World.cell?_of_block (hg5.block q.block (by simp; omega) (by simp [Value.ownBlock])))); have hsz5 := hid hg5.size; clear hrow5 hb5 hg5)
        | fail)
      have hX5 := hid ((hX'.out.below hb5'.out).more hb5'.out.size)
      have hat6 := hid (hat5.out.more (show W3.heap.size ≤ W5.heap.size from Nat.le_trans (by simp) hsz5.out))
      refine (roots_any (some p) n c xs A1 ts.length d1 ts _ hX5.out hnc hn hs'.out hat6.out rfl (by omega) w1'.out).mono ?_
      rintro e W6 ⟨A3, c3, rfl, hrow3, hb6⟩
      have hb6' := hid (below_up hb6 hb5'.out)
      have hw6 : w.heap.size ≤ W6.heap.size := hb6'.out.size
      have hnil := hid (fun (h : A3 = none) => own_nil (by subst h; exact hrow3))
      have hat7 := hid (At.of_own hrow3)
      have hrow6 := hid (row_below hrow5'.out hb6)
      clear hb6 hrow3
      go_wp2_with (first
        | ((with_reducible refine at_slot (some 48) ?_); refine wpList_appends rfl (.tmp 44) (.tmp 47) 41 28 rfl w.heap.size i0 _ 32 32 Try.underlying41 hi0 hz0 hz1 hz2 (by decide) (by decide) A5 (0 + 1) c5 _ W6.heap.size A3 ts.length c3 _ rfl rfl (by exact hnil.out) (by exact hashCells_each (rootsH xs ts)) (by omega) (by omega) (by exact hrow6.out) (by exact hat7.out) (by exact hw6) ?_; intro A7 c7 W7 hrow7 hb7 hg7; have hB7 := hid (hb6'.out.trans hb7); have hrow7' := hid hrow7; clear hrow7 hb7 hg7)
        | fail)
      go_ret2
      have hr := hrow7'.out
      have e9 : [] ++ cs ++ hashCells (rootsH xs ts) = hashCells ([rootH (Mth.seg xs lo hi)] ++ rootsH xs ts) := by rw [List.nil_append, hashCells_append, hcs1.out]
      have e8 : (rootsH xs ts).length + 1 = 0 + 1 + ts.length := by rw [hrl'.out]; omega
      rw [e9, ← e8] at hr
      exact ⟨A7, c7, by rw [e8, Nat.zero_add]; rfl, Hashs.of_own hr hll'.out, own_cap hr, (fun h => by subst h; exact own_nil hr), by rw [hrl'.out]; omega, hB7.out⟩
    · have h0i : ¬ (0 : Int) < (lo : Int) := by omega
      rw [if_neg h0, List.nil_append] at hll' ⊢
      rw [hrl'.out]
      go_enter Try.func34, Try.ntmps34
      go_wp2_with (go_at_call 55; refine (endsAt_any m _).mono ?_; rintro e w' ⟨rfl, rfl⟩)
      have hb0 := hid ((Below.refl w.heap.size w).alloc (Nat.le_refl _) (.cells #[.int .i64 (m : Int)] 3))
      refine (hdn.out (w.alloc (.cells #[.int .i64 (m : Int)] 3)) w.heap.size (by simp)).mono ?_
      rintro e W1 ⟨A1, d1, rfl, hat1, hb1⟩
      have hb1' := hid (below_up hb1 hb0.out)
      have hb2 := hid (hb1'.out.alloc hb1'.out.size (.cells #[.int .i64 (lo : Int), .int .i64 (hi : Int)] 72))
      have hat2 := hid ((At.alloc hat1 (Nat.le_refl _) (.cells #[.int .i64 (lo : Int), .int .i64 (hi : Int)] 72)).more (show _ ≤ (W1.alloc (.cells #[.int .i64 (lo : Int), .int .i64 (hi : Int)] 72)).heap.size from by simp))
      clear hb1 hat1
      unfold spanV
      go_wp2_with fail
      have hX2 := hid ((hX'.out.below hb2.out).more hb2.out.size)
      refine (roots_any (some p) n c xs A1 ts.length d1 ts _ hX2.out hnc hn hs'.out hat2.out rfl (by omega) w1'.out).mono ?_
      rintro e W3 ⟨A3, c3, rfl, hrow3, hb3⟩
      have hb3' := hid (below_up hb3 hb2.out)
      have hw3 : w.heap.size ≤ W3.heap.size := hb3'.out.size
      have hnil := hid (fun (h : A3 = none) => own_nil (by subst h; exact hrow3))
      have hat3 := hid (At.of_own hrow3)
      clear hb3 hrow3
      go_wp2_with (first
        | ((with_reducible refine at_slot (some 48) ?_); refine wpList_appends rfl (.tmp 44) (.tmp 47) 41 28 rfl w.heap.size i0 _ 32 32 Try.underlying41 hi0 hz0 hz1 hz2 (by decide) (by decide) none 0 0 [] W3.heap.size A3 ts.length c3 _ rfl rfl (by exact hnil.out) (by exact hashCells_each (rootsH xs ts)) (by omega) (by omega) (by exact World.ownsRow_nil _ _ _ _) (by exact hat3.out) (by exact hw3) ?_; intro A7 c7 W7 hrow7 hb7 hg7; have hB7 := hid (hb3'.out.trans hb7); have hrow7' := hid hrow7; clear hrow7 hb7 hg7)
        | fail)
      go_ret2
      have hr := hrow7'.out
      rw [Nat.zero_add, List.nil_append] at hr
      exact ⟨A7, c7, rfl, Hashs.of_own hr hll'.out, own_cap hr, (fun h => by subst h; exact own_nil hr), by omega, hB7.out⟩
  · have e1 : conL xs i = [] := if_neg hok
    have e2 : conE xs i = 1000 := if_neg hok
    rw [e1, e2]
    have hno : 256 < n ∨ i < 1 ∨ (n : Int) < i := by
      unfold conOk at hok
      omega
    clear e1 e2 hok hs
    by_cases c1 : (256 : Int) < (n : Int)
    · go_enter Try.func34, Try.ntmps34
      go_wp2_with fail
      go_ret2
      first | exact ⟨none, 0, rfl, Hashs.nil_ _ _, fun _ => rfl, Below.refl _ _⟩ | exact ⟨none, 0, rfl, Hashs.nil_ _ _, Nat.zero_le _, fun _ => rfl, Nat.zero_le _, Below.refl _ _⟩
    · by_cases c2 : i < 1
      · go_enter Try.func34, Try.ntmps34
        go_wp2_with fail
        go_ret2
        first | exact ⟨none, 0, rfl, Hashs.nil_ _ _, fun _ => rfl, Below.refl _ _⟩ | exact ⟨none, 0, rfl, Hashs.nil_ _ _, Nat.zero_le _, fun _ => rfl, Nat.zero_le _, Below.refl _ _⟩
      · have c3 : (n : Int) < i := by omega
        go_enter Try.func34, Try.ntmps34
        go_wp2_with fail
        go_ret2
        first | exact ⟨none, 0, rfl, Hashs.nil_ _ _, fun _ => rfl, Below.refl _ _⟩ | exact ⟨none, 0, rfl, Hashs.nil_ _ _, Nat.zero_le _, fun _ => rfl, Nat.zero_le _, Below.refl _ _⟩

end Go.Proofs.Ytenfhmpjhbpkpaa
namespace Go.Proofs.Ytenfhmpjhbpkpaa
open Go.RowKit Go.Shelf
open Go.Lib (strCells strCells_length strCells_oneCell)
attribute [local irreducible] Sha.compress Sha.blocks Sha.sha Sha.pad
attribute [local go_sem] Oper.semAt_some

section
variable {F : Fence} {n : Nat} {P : Program} {ops : Array Oper} {o : Oper} {a : Act} {w : World} {K : Act → World → Prop} {Q : Exit → Act → World → Prop} {rest : List Oper}
theorem wpIn_run (hd : ∀ c, o.op ≠ .defer c) (ha : o.about P w a.eval = none) (v : Value) (w' : World) (hrun : (execOp a.eval o).run P w = .ok (.value v) w') (h : K (a.put o.dst v) w') : o.wpIn F n P a w K Q := by
  unfold Oper.wpIn
  refine ⟨fun f hf => (by rw [ha] at hf; cases hf), ?_⟩
  rw [Oper.semAt_plain F _ _ hd, hrun]
  exact h

theorem wpIn_load_far (ty : TypeId) (x : Operand) (ho : o.op = .load ty x) (p : Addr) (hx : a.eval x = .pointer (some p)) (cs : List Value) (d : TypeDesc) (hc : CellsAt w p cs)
    (hu : P.underlying ty = some d) (hd : d.isRow = true) (hi : (P.info? ty).map (·.size) = some cs.length) (h : K (a.put o.dst (.agg cs.toArray)) w) : o.wpIn F n P a w K Q := by
  refine wpIn_run (fun c e => by rw [ho] at e; cases e) (by simp [Oper.about, ho]) _ _ ?_ h
  unfold execOp
  simp only [ho, hx, Instr.loadAt, Instr.sureAddr, Sem.run_bind, Sem.run_pure, Result.andThen_ok, run_load_far p ty cs d hc hu hd hi]

theorem wpListIn_load_far (hg : o.guard = none) (ty : TypeId) (x : Operand) (ho : o.op = .load ty x) (p : Addr) (hx : a.eval x = .pointer (some p)) (cs : List Value) (d : TypeDesc) (hc : CellsAt w p cs)
    (hu : P.underlying ty = some d) (hd : d.isRow = true) (hi : (P.info? ty).map (·.size) = some cs.length) (h : wpListIn F n P ops Q rest (a.put o.dst (.agg cs.toArray)) w) : wpListIn F n P ops Q (o :: rest) a w := by
  refine wpListIn_run hg (fun c e => by rw [ho] at e; cases e) (by simp [Oper.about, ho]) _ _ ?_ h
  unfold execOp
  simp only [ho, hx, Instr.loadAt, Instr.sureAddr, Sem.run_bind, Sem.run_pure, Result.andThen_ok, run_load_far p ty cs d hc hu hd hi]
end

/-- All blocks below n but two lie as they lay. -/
def KeepE (n a b : Nat) (W W' : World) : Prop := W.heap.size ≤ W'.heap.size ∧ ∀ k, k < n → k ≠ a → k ≠ b → W'.heap[k]? = W.heap[k]?

section
variable {n a b : Nat} {A B C : World}
theorem KeepE.refl (n a b : Nat) (W : World) : KeepE n a b W W := ⟨Nat.le_refl _, fun _ _ _ _ => rfl⟩
theorem KeepE.trans (h : KeepE n a b A B) (k : KeepE n a b B C) : KeepE n a b A C := ⟨Nat.le_trans h.1 k.1, fun i hi ha hb => (k.2 i hi ha hb).trans (h.2 i hi ha hb)⟩
theorem KeepE.cell (h : KeepE n a b A B) {p : Addr} (hp : p.block < n) (ha : p.block ≠ a) (hb : p.block ≠ b) : B.cell? p = A.cell? p := World.cell?_of_block (w := A) (h.2 p.block hp ha hb)
theorem KeepE.below (hn : n ≤ A.heap.size) (h : Below A.heap.size A B) : KeepE n a b A B := ⟨h.size, fun k hk _ _ => h.block k (by omega)⟩
theorem KeepE.grown1 (hn : n ≤ A.heap.size) (h : A.grownBy B (some a)) : KeepE n a b A B := ⟨h.size, fun k hk ha _ => h.block k (by omega) (fun e => ha (Option.some.inj e))⟩
theorem KeepE.grown2 (hn : n ≤ A.heap.size) (h : A.grownBy B (some b)) : KeepE n a b A B := ⟨h.size, fun k hk _ hb => h.block k (by omega) (fun e => hb (Option.some.inj e))⟩
theorem KeepE.put (hn : n ≤ C.heap.size) (W : World) (l : Nat) (o o' : Obj) (hl : C.heap.size ≤ l) (_ : W.heap[l]? = some o) (_ : o.isCells = false) (_ : o.isWalk = false) : KeepE n a b W (W.putObj l o') :=
  ⟨by simp, fun k hk _ _ => World.putObj_heap_other (by omega)⟩
theorem KeepE.cells (h : KeepE n a b A B) {p : Addr} {cs : List Value} (hp : p.block < n) (ha : p.block ≠ a) (hb : p.block ≠ b) (hc : CellsAt A p cs) : CellsAt B p cs :=
  fun j v hv => (h.cell (p := p.add j) (by rw [add_block]; exact hp) (by rw [add_block]; exact ha) (by rw [add_block]; exact hb)).trans (hc j v hv)
end

/-- What is yielded: a turn, a hash. -/
abbrev PT := { x : Mth.Turn × List UInt8 // x.2.length = 32 }

theorem zip_next {ts : List Mth.Turn} {ps : List (List UInt8)} {k : Nat} {t : Mth.Turn} {x : List UInt8} (ht : ts[k]? = some t) (hx : ps[k]? = some x) : (ts.zip ps).take (k + 1) = (ts.zip ps).take k ++ [(t, x)] := by
  rw [List.take_add_one]
  congr 1
  rw [(List.getElem?_zip_eq_some (z := (t, x))).2 ⟨ht, hx⟩]
  rfl

set_option maxRecDepth 100000 in
set_option maxHeartbeats 2000000 in
/-- The iterator of up, whatever the loop's body does to the blocks a and b. -/
theorem up_stops (m n₁ a b b1 b2 : Nat) (h1 : b1 < n₁) (h1a : b1 ≠ a) (h1b : b1 ≠ b) (h2 : b2 < n₁) (h2a : b2 ≠ a) (h2b : b2 ≠ b) (A : Option Addr) (q c : Nat) (ts : List Mth.Turn) (A' : Option Addr) (c' : Nat) (ps : List (List UInt8))
    (hq : ts.length = q) (hp : ps.length = q) (h32 : ∀ x ∈ ps, x.length = 32) (hq2 : q ≤ 1000) (w : World) (hn1 : n₁ ≤ w.heap.size) (c1 : w.cell? ⟨b1, 0, none⟩ = some (.slice A q c)) (c2 : w.cell? ⟨b2, 0, none⟩ = some (.slice A' q c'))
    (hT : ∀ k t, ts[k]? = some t → ∃ p, A = some p ∧ p.block < n₁ ∧ p.block ≠ a ∧ p.block ≠ b ∧ CellsAt w (p.add (k * 3)) (turnC t))
    (hP : ∀ k x, ps[k]? = some x → ∃ p, A' = some p ∧ p.block < n₁ ∧ p.block ≠ a ∧ p.block ≠ b ∧ CellsAt w (p.add (k * 32)) (byteCells x)) :
    SeqStopsK Fence.wide (m + 1) Try.prog 64 #[.pointer (some ⟨b1, 0, none⟩), .pointer (some ⟨b2, 0, none⟩)] (fun x : PT => #[turnV x.1.1, hv x.1.2]) (KeepE n₁ a b) (fun ys => ys.map (·.1) = ts.zip ps) (fun _ => True) q w := fun l J Jx W hW hJ _ hY h0 => by
  have d1 := (hW.cell (p := ⟨b1, 0, none⟩) (by show b1 < _; omega)).trans c1
  have d2 := (hW.cell (p := ⟨b2, 0, none⟩) (by show b2 < _; omega)).trans c2
  have hW1 : n₁ ≤ W.heap.size := Nat.le_trans hn1 hW.size
  have hT' := hid (fun k t (hk : ts[k]? = some t) => show ∃ p, A = some p ∧ p.block < n₁ ∧ p.block ≠ a ∧ p.block ≠ b ∧ CellsAt W (p.add (k * 3)) (turnC t) from by
    obtain ⟨p, q1, q2, q3, q4, q5⟩ := hT k t hk
    exact ⟨p, q1, q2, q3, q4, q5.below hW (by rw [add_block]; omega)⟩)
  have hP' := hid (fun k x (hk : ps[k]? = some x) => show ∃ p, A' = some p ∧ p.block < n₁ ∧ p.block ≠ a ∧ p.block ≠ b ∧ CellsAt W (p.add (k * 32)) (byteCells x) from by
    obtain ⟨p, q1, q2, q3, q4, q5⟩ := hP k x hk
    exact ⟨p, q1, q2, q3, q4, q5.below hW (by rw [add_block]; omega)⟩)
  have hJn := hid (fun pre (W1 W2 : World) (_ : W.heap.size ≤ W1.heap.size) (hj : J pre W1) (hb : Below W1.heap.size W1 W2) => hJ pre W1 W2 none hj (only_of_below hb none) (fun r e => by cases e))
  have h32' := hid h32
  clear hT hP hJ h32
  refine callsIn_of_wp Try.func64 rfl trivial ?_ rfl
  simp only [Try.ntmps64, List.size_toArray, List.length_cons, List.length_nil, Nat.reduceAdd, Nat.reduceSub, Array.replicate_succ, Array.replicate_zero, List.push_toArray, List.append_toArray, List.nil_append, List.cons_append]
  gi_wp2_with fail
  gi_loopw [8] (fun i wr => ∃ (k : Nat) (pre : List PT), k ≤ q ∧ i = .int .i64 (k : Int) ∧ pre.map (·.1) = (ts.zip ps).take k ∧ J pre wr ∧ KeepE n₁ a b W wr) (fun i _ => q - (intOf i).toNat)
  case atStart => exact ⟨0, [], Nat.zero_le _, rfl, rfl, h0, KeepE.refl _ _ _ _⟩
  case round =>
    obtain ⟨k, pre, hk, rfl, hpre, hJp, hkw⟩ := hrel
    by_cases hlt : k < q
    · obtain ⟨t, ht⟩ : ∃ t, ts[k]? = some t := ⟨_, List.getElem?_eq_getElem (by omega)⟩
      obtain ⟨x, hx⟩ : ∃ x, ps[k]? = some x := ⟨_, List.getElem?_eq_getElem (by omega)⟩
      have hx32 := h32'.out x (List.mem_of_getElem? hx)
      obtain ⟨p, rfl, p1, p2, p3, p4⟩ := hT'.out k t ht
      obtain ⟨p', rfl, p1', p2', p3', p4'⟩ := hP'.out k x hx
      have hct := hid (hkw.cells (by rw [add_block]; exact p1) (by rw [add_block]; exact p2) (by rw [add_block]; exact p3) p4)
      have hcx := hid (hkw.cells (by rw [add_block]; exact p1') (by rw [add_block]; exact p2') (by rw [add_block]; exact p3') p4')
      have e2 := (hkw.cell (p := ⟨b2, 0, none⟩) h2 h2a h2b).trans d2
      have hplen : pre.length = k := by
        have := congrArg List.length hpre
        rw [List.length_map, List.length_take, List.length_zip, hq, hp] at this
        omega
      have hnx := hid (zip_next ht hx)
      have hkq : (k : Int) < (q : Int) := by omega
      have hk0 : (0 : Int) ≤ (k : Int) := by omega
      have hto : (k : Int).toNat = k := by omega
      have hiz : (Try.prog.info? 28).map (·.size) = some (byteCells x).length := by rw [Try.infoHash, byteCells, List.length_map, hx32]
      have hszr := hkw.1
      have hkw' := hid hkw
      have hJp' := hid hJp
      have hpre' := hid hpre
      obtain ⟨left, lo, hi⟩ := t
      clear ht hx hkw hJp p4 p4' hpre
      gi_wp2_with (first
        | ((with_reducible refine at_slotIn (some 12) ?_); refine wpListIn_load_far rfl 82 (.tmp 11) rfl (p.add (k * 3)) rfl [.bool left, .int .i64 (lo : Int), .int .i64 (hi : Int)] _ hct.out Try.underlying82 rfl (by kernel_rfl) ?_)
        | fail)
      have hal : Below wr.heap.size wr (wr.alloc (.cells #[.bool left, .int .i64 (lo : Int), .int .i64 (hi : Int)] 82)).drew := ((Below.refl _ _).alloc (Nat.le_refl _) _).drew
      have hHt0 : Holds (wr.alloc (.cells #[.bool left, .int .i64 (lo : Int), .int .i64 (hi : Int)] 82)).drew wr.heap.size 82 (turnC ⟨left, lo, hi⟩) := Holds.new wr _ _
      refine wpIn_region_any (by kernel_rfl) ?_
      change wpAnyIn _ _ _ _ _ _ _ _ _ (World.drew _)
      generalize (wr.alloc (.cells #[.bool left, .int .i64 (lo : Int), .int .i64 (hi : Int)] 82)).drew = Wd at *
      have hcd := hid (hcx.out.below hal (by
        have h9 := World.block_lt_of_cell? wr ⟨b2, 0, none⟩ e2
        rw [add_block]
        omega))
      have e3 := (hal.cell (p := ⟨b2, 0, none⟩) (World.block_lt_of_cell? wr ⟨b2, 0, none⟩ e2)).trans e2
      have hkd := hid (hkw'.out.trans (KeepE.below (by omega) hal))
      have hszd : W.heap.size ≤ Wd.heap.size := hkd.out.1
      obtain ⟨fn3, tmps3, assign3, body3, hy3, hR3⟩ := hY pre ⟨(⟨left, lo, hi⟩, x), hx32⟩ Wd (hJn.out pre wr Wd hszr hJp'.out hal) (by omega)
      have hy4 : (Instr.yield l #[.agg (turnC ⟨left, lo, hi⟩).toArray, .agg (byteCells x).toArray]).run Try.prog Wd = .ok (.round l fn3 tmps3 assign3 body3) Wd := hy3
      have hil0 : (Try.prog.info? 82).map (·.size) = some (turnC ⟨left, lo, hi⟩).length := by kernel_rfl
      clear hy3 hct hal e2 hcx d1 d2
      generalize turnC ⟨left, lo, hi⟩ = ct at *
      have hHt := hid hHt0
      have hil := hid hil0
      clear hHt0 hil0
      refine wpAnyIn_take (i := 0) (v := .func (.yield l) #[] #[]) rfl rfl (by kernel_rfl) (by kernel_rfl) (by kernel_rfl) (fun _ _ _ h => h) ⟨Or.inl ⟨by rfl, fun w => by go_simp⟩, fun _ => rfl⟩ ?_
      simp only [ly1, ly2, ly3, Act.put, ly5, ly6, ly7]
      refine wpAnyIn_take (i := 3) (v := .int .i64 (k : Int)) rfl rfl (by kernel_rfl) (by kernel_rfl) (by kernel_rfl) (fun _ _ _ h => h) ⟨Or.inl ⟨by rfl, fun w => by go_simp⟩, fun _ => rfl⟩ ?_
      simp only [ly1, ly2, ly3, Act.put, ly5, ly6, ly7]
      refine wpAnyIn_ready (rs := [1, 2]) (by kernel_rfl) (by simp) (AllReadyIn.cons rfl (fun K hK => ?_) (AllReadyIn.cons rfl (fun K hK => ?_) AllReadyIn.nil))
      · skip
        rw [if_pos (by kernel_rfl)]
        simp only [ly1, ly2, ly3]
        refine wpIn_load_far _ _ rfl ⟨wr.heap.size, 0, none⟩ rfl ct _ (cellsAt_of hHt.out) Try.underlying82 rfl (by exact hil.out) ?_
        refine hK _ _ ?_
        clear hK K
        simp only [ly1, ly2, ly3, Act.put, ly5, ly6, ly7]
        refine wpAnyIn_ready (rs := [2]) (by kernel_rfl) (by simp) (AllReadyIn.cons rfl (fun K hK => ?_) AllReadyIn.nil)
        rw [if_pos (by kernel_rfl)]
        simp only [ly1, ly2, ly3]
        refine wpIn_run (fun c e => by cases e) rfl (.slice (some p') q c') Wd (by go_simp) ?_
        refine hK _ _ ?_
        clear hK K
        simp only [ly1, ly2, ly3, Act.put, ly5, ly6, ly7]
        refine wpAnyIn_take (i := 4) (v := .pointer (some (p'.add (k * 32)))) rfl rfl (by kernel_rfl) (by kernel_rfl) (by kernel_rfl) (fun _ _ _ h => h) ⟨Or.inl ⟨by rfl, fun w => by go_simp⟩, fun _ => rfl⟩ ?_
        simp only [ly1, ly2, ly3, Act.put, ly5, ly6, ly7]
        refine wpAnyIn_ready (rs := [5]) (by kernel_rfl) (by simp) (AllReadyIn.cons rfl (fun K hK => ?_) AllReadyIn.nil)
        rw [if_pos (by kernel_rfl)]
        simp only [ly1, ly2, ly3]
        refine wpIn_load_far _ _ rfl (p'.add (k * 32)) rfl (byteCells x) _ hcd.out Try.underlying28 rfl (by exact hiz) ?_
        refine hK _ _ ?_
        clear hK K
        simp only [ly1, ly2, ly3, Act.put, ly5, ly6, ly7]
        refine wpAnyIn_ready (rs := [6]) (by kernel_rfl) (by simp) (AllReadyIn.cons rfl (fun K hK => ?_) AllReadyIn.nil)
        rw [if_pos (by kernel_rfl)]
        simp only [ly1, ly2, ly3]
        go_simp
        refine hR3.mono ?_
        rintro e W4 (⟨rfl, hJ4, hk5⟩ | ⟨rfl, hx4⟩)
        · refine hK _ _ ?_
          clear hK K
          refine wpAnyIn_take (i := 7) (v := .bool false) rfl rfl (by kernel_rfl) (by kernel_rfl) (by kernel_rfl) (fun _ _ _ h => h) ⟨Or.inl ⟨by rfl, fun w => by go_simp⟩, fun _ => rfl⟩ ?_
          simp only [ly1, ly2, ly3, Act.put, ly5, ly6, ly7]
          refine wpAnyIn_done (by kernel_rfl) ?_ _
          gi_wp2_with fail
          go_roundw
          case rel => exact ⟨k + 1, _, by omega, by go_num, by rw [List.map_append, hpre'.out, hnx.out]; rfl, hJ4, hkd.out.trans hk5⟩
          case measure => simp [intOf]; omega
        · refine hK _ _ ?_
          clear hK K
          refine wpAnyIn_take (i := 7) (v := .bool true) rfl rfl (by kernel_rfl) (by kernel_rfl) (by kernel_rfl) (fun _ _ _ h => h) ⟨Or.inl ⟨by rfl, fun w => by go_simp⟩, fun _ => rfl⟩ ?_
          simp only [ly1, ly2, ly3, Act.put, ly5, ly6, ly7]
          refine wpAnyIn_done (by kernel_rfl) ?_ _
          gi_wp2_with fail
          refine bodyPost_ret (results_none rfl _ _ _) rfl ?_
          exact ⟨⟨_, rfl⟩, .inr ⟨_, trivial, hx4⟩⟩
      · skip
        rw [if_pos (by kernel_rfl)]
        simp only [ly1, ly2, ly3]
        refine wpIn_run (fun c e => by cases e) rfl (.slice (some p') q c') Wd (by go_simp) ?_
        refine hK _ _ ?_
        clear hK K
        simp only [ly1, ly2, ly3, Act.put, ly5, ly6, ly7]
        refine wpAnyIn_take (i := 4) (v := .pointer (some (p'.add (k * 32)))) rfl rfl (by kernel_rfl) (by kernel_rfl) (by kernel_rfl) (fun _ _ _ h => h) ⟨Or.inl ⟨by rfl, fun w => by go_simp⟩, fun _ => rfl⟩ ?_
        simp only [ly1, ly2, ly3, Act.put, ly5, ly6, ly7]
        refine wpAnyIn_ready (rs := [1, 5]) (by kernel_rfl) (by simp) (AllReadyIn.cons rfl (fun K hK => ?_) (AllReadyIn.cons rfl (fun K hK => ?_) AllReadyIn.nil))
        · skip
          rw [if_pos (by kernel_rfl)]
          simp only [ly1, ly2, ly3]
          refine wpIn_load_far _ _ rfl ⟨wr.heap.size, 0, none⟩ rfl ct _ (cellsAt_of hHt.out) Try.underlying82 rfl (by exact hil.out) ?_
          refine hK _ _ ?_
          clear hK K
          simp only [ly1, ly2, ly3, Act.put, ly5, ly6, ly7]
          refine wpAnyIn_ready (rs := [5]) (by kernel_rfl) (by simp) (AllReadyIn.cons rfl (fun K hK => ?_) AllReadyIn.nil)
          rw [if_pos (by kernel_rfl)]
          simp only [ly1, ly2, ly3]
          refine wpIn_load_far _ _ rfl (p'.add (k * 32)) rfl (byteCells x) _ hcd.out Try.underlying28 rfl (by exact hiz) ?_
          refine hK _ _ ?_
          clear hK K
          simp only [ly1, ly2, ly3, Act.put, ly5, ly6, ly7]
          refine wpAnyIn_ready (rs := [6]) (by kernel_rfl) (by simp) (AllReadyIn.cons rfl (fun K hK => ?_) AllReadyIn.nil)
          rw [if_pos (by kernel_rfl)]
          simp only [ly1, ly2, ly3]
          go_simp
          refine hR3.mono ?_
          rintro e W4 (⟨rfl, hJ4, hk5⟩ | ⟨rfl, hx4⟩)
          · refine hK _ _ ?_
            clear hK K
            refine wpAnyIn_take (i := 7) (v := .bool false) rfl rfl (by kernel_rfl) (by kernel_rfl) (by kernel_rfl) (fun _ _ _ h => h) ⟨Or.inl ⟨by rfl, fun w => by go_simp⟩, fun _ => rfl⟩ ?_
            simp only [ly1, ly2, ly3, Act.put, ly5, ly6, ly7]
            refine wpAnyIn_done (by kernel_rfl) ?_ _
            gi_wp2_with fail
            go_roundw
            case rel => exact ⟨k + 1, _, by omega, by go_num, by rw [List.map_append, hpre'.out, hnx.out]; rfl, hJ4, hkd.out.trans hk5⟩
            case measure => simp [intOf]; omega
          · refine hK _ _ ?_
            clear hK K
            refine wpAnyIn_take (i := 7) (v := .bool true) rfl rfl (by kernel_rfl) (by kernel_rfl) (by kernel_rfl) (fun _ _ _ h => h) ⟨Or.inl ⟨by rfl, fun w => by go_simp⟩, fun _ => rfl⟩ ?_
            simp only [ly1, ly2, ly3, Act.put, ly5, ly6, ly7]
            refine wpAnyIn_done (by kernel_rfl) ?_ _
            gi_wp2_with fail
            refine bodyPost_ret (results_none rfl _ _ _) rfl ?_
            exact ⟨⟨_, rfl⟩, .inr ⟨_, trivial, hx4⟩⟩
        · skip
          rw [if_pos (by kernel_rfl)]
          simp only [ly1, ly2, ly3]
          refine wpIn_load_far _ _ rfl (p'.add (k * 32)) rfl (byteCells x) _ hcd.out Try.underlying28 rfl (by exact hiz) ?_
          refine hK _ _ ?_
          clear hK K
          simp only [ly1, ly2, ly3, Act.put, ly5, ly6, ly7]
          refine wpAnyIn_ready (rs := [1]) (by kernel_rfl) (by simp) (AllReadyIn.cons rfl (fun K hK => ?_) AllReadyIn.nil)
          rw [if_pos (by kernel_rfl)]
          simp only [ly1, ly2, ly3]
          refine wpIn_load_far _ _ rfl ⟨wr.heap.size, 0, none⟩ rfl ct _ (cellsAt_of hHt.out) Try.underlying82 rfl (by exact hil.out) ?_
          refine hK _ _ ?_
          clear hK K
          simp only [ly1, ly2, ly3, Act.put, ly5, ly6, ly7]
          refine wpAnyIn_ready (rs := [6]) (by kernel_rfl) (by simp) (AllReadyIn.cons rfl (fun K hK => ?_) AllReadyIn.nil)
          rw [if_pos (by kernel_rfl)]
          simp only [ly1, ly2, ly3]
          go_simp
          refine hR3.mono ?_
          rintro e W4 (⟨rfl, hJ4, hk5⟩ | ⟨rfl, hx4⟩)
          · refine hK _ _ ?_
            clear hK K
            refine wpAnyIn_take (i := 7) (v := .bool false) rfl rfl (by kernel_rfl) (by kernel_rfl) (by kernel_rfl) (fun _ _ _ h => h) ⟨Or.inl ⟨by rfl, fun w => by go_simp⟩, fun _ => rfl⟩ ?_
            simp only [ly1, ly2, ly3, Act.put, ly5, ly6, ly7]
            refine wpAnyIn_done (by kernel_rfl) ?_ _
            gi_wp2_with fail
            go_roundw
            case rel => exact ⟨k + 1, _, by omega, by go_num, by rw [List.map_append, hpre'.out, hnx.out]; rfl, hJ4, hkd.out.trans hk5⟩
            case measure => simp [intOf]; omega
          · refine hK _ _ ?_
            clear hK K
            refine wpAnyIn_take (i := 7) (v := .bool true) rfl rfl (by kernel_rfl) (by kernel_rfl) (by kernel_rfl) (fun _ _ _ h => h) ⟨Or.inl ⟨by rfl, fun w => by go_simp⟩, fun _ => rfl⟩ ?_
            simp only [ly1, ly2, ly3, Act.put, ly5, ly6, ly7]
            refine wpAnyIn_done (by kernel_rfl) ?_ _
            gi_wp2_with fail
            refine bodyPost_ret (results_none rfl _ _ _) rfl ?_
            exact ⟨⟨_, rfl⟩, .inr ⟨_, trivial, hx4⟩⟩
    · obtain rfl : k = q := by omega
      have e : (ts.zip ps).take k = ts.zip ps := List.take_of_length_le (by rw [List.length_zip, hq, hp]; omega)
      rw [e] at hpre
      gi_wp2
      go_end0
      exact ⟨⟨_, rfl⟩, .inl ⟨pre, hpre, hJp⟩⟩

end Go.Proofs.Ytenfhmpjhbpkpaa
namespace Go.Proofs.Ytenfhmpjhbpkpaa
open Go.RowKit Go.Shelf
open Go.Lib (strCells strCells_length strCells_oneCell)
attribute [local irreducible] Sha.compress Sha.blocks Sha.sha Sha.pad
attribute [local go_sem] Oper.semAt_some

/-- The node so far. -/
def upSo (z : List UInt8) (pre : List PT) : List UInt8 := pre.foldl (fun r x => Mth.oneUp nodeH x.1.1 r x.1.2) z
theorem upSo_snoc (z : List UInt8) (pre : List PT) (x : PT) : upSo z (pre ++ [x]) = Mth.oneUp nodeH x.1.1 (upSo z pre) x.1.2 := by simp [upSo]

theorem oneUp_len (t : Mth.Turn) (a b : List UInt8) : (Mth.oneUp nodeH t a b).length = 32 := by
  unfold Mth.oneUp
  split <;> exact nodeH_len _ _

theorem upSo_len (z : List UInt8) (hz : z.length = 32) : ∀ pre : List PT, (upSo z pre).length = 32 := by
  intro pre
  rcases List.eq_nil_or_concat pre with rfl | ⟨l, x, rfl⟩
  · exact hz
  · rw [List.concat_eq_append, upSo_snoc]
    exact oneUp_len _ _ _

theorem upAll_zip : ∀ (ts : List Mth.Turn) (ps : List (List UInt8)) (z : List UInt8), ts.length = ps.length → (ts.zip ps).foldl (fun r x => Mth.oneUp nodeH x.1 r x.2) z = Mth.upAll nodeH z ts ps
  | [], [], z, _ => rfl
  | [], _ :: _, z, h => by simp at h
  | _ :: _, [], z, h => by simp at h
  | t :: ts, x :: xs, z, h => by
    have ih := upAll_zip ts xs (Mth.oneUp nodeH t z x) (by simpa using h)
    simpa [Mth.upAll] using ih

theorem upSo_all (z : List UInt8) (ts : List Mth.Turn) (ps : List (List UInt8)) (h : ts.length = ps.length) (ys : List PT) (hy : ys.map (·.1) = ts.zip ps) : upSo z ys = Mth.upAll nodeH z ts ps := by
  have e : upSo z ys = (ys.map (·.1)).foldl (fun r x => Mth.oneUp nodeH x.1 r x.2) z := by
    unfold upSo
    rw [List.foldl_map]
  rw [e, hy, upAll_zip ts ps z h]

/-- A leaf's place that may be. -/
def placeOk (i size : Int) : Prop := 1 ≤ size ∧ size ≤ 256 ∧ 0 ≤ i ∧ i < size
instance placeD (i size : Int) : Decidable (placeOk i size) := by unfold placeOk; exact inferInstance

/-- What a check of a leaf's path answers. -/
def ckIncE (lf : List UInt8) (i size : Int) (ps : List (List UInt8)) (root : List UInt8) : Int :=
  if placeOk i size then (if (Mth.climb nodeH size.toNat lf i.toNat size.toNat ps).2 = true ∧ (Mth.climb nodeH size.toNat lf i.toNat size.toNat ps).1 = root then 0 else 1001) else 1000

theorem hv_neq2 (C D : List UInt8) (hC : C.length = 32) (hD : D.length = 32) (w : World) : (binOp .neq 28 (.agg (byteCells C).toArray) (.agg (byteCells D).toArray)).run Try.prog w = .ok (.bool (!(C == D))) w := by
  have h : (binOp .eql 28 (.agg (byteCells C).toArray) (.agg (byteCells D).toArray)).run Try.prog w = .ok (.bool (C == D)) w := run_eql_bytes w 28 5 32 Try.underlying28 Try.underlying5 sizeU8_run C D hC hD
  rw [run_eql_struct] at h
  rw [run_neq_struct]
  cases hq : (Op.equalIn 10000 28 (.agg (byteCells C).toArray) (.agg (byteCells D).toArray)).run Try.prog w with
  | ok b w' =>
    rw [hq] at h
    simp only [Result.andThen_ok, Result.ok.injEq, Value.bool.injEq] at h ⊢
    rw [h.1, h.2]
    exact ⟨rfl, rfl⟩
  | halt e w' =>
    rw [hq] at h
    cases h

section
variable {ops : Array Oper} {rest : List Oper} {o : Oper} {a : Act} {w : World} {Q : Exit → Act → World → Prop}
theorem wpList_hneq (hgd : o.guard = none) (x y : Operand) (ty : TypeId) (ho : o.op = .binOp .neq 28 x y ty) (C D : List UInt8) (hC : C.length = 32) (hD : D.length = 32) (hx : a.eval x = .agg (byteCells C).toArray) (hy : a.eval y = .agg (byteCells D).toArray)
    (h : wpList Try.prog ops Q rest (a.put o.dst (.bool (!(C == D)))) w) : wpList Try.prog ops Q (o :: rest) a w := by
  refine wpList_run hgd (.bool (!(C == D))) w ?_ h
  have hg : ∀ x y W, (eqGuard .neq 28 x y (.agg (byteCells C).toArray) (.agg (byteCells D).toArray)).run Try.prog W = .ok () W := fun x y W => hv_guard .neq x y C D W
  simp only [execOp, ho, hx, hy, Sem.run_bind, hg, hv_neq2 C D hC hD, Result.andThen_ok, Sem.run_pure]
end

theorem up_any (A : Option Addr) (n c : Nat) (A' : Option Addr) (n' c' : Nat) (w : World) : Calls Try.prog 52 #[.slice A n c, .slice A' n' c'] w fun e w' => e = .returned (.func (.func 64) #[] #[.pointer (some ⟨w.heap.size, 0, none⟩), .pointer (some ⟨w.heap.size + 1, 0, none⟩)]) ∧ w' = (w.alloc (.cells #[.slice A n c] 70)).alloc (.cells #[.slice A' n' c'] 41) := by
  go_enter Try.func52, Try.ntmps52
  go_wp2
  go_ret
  exact ⟨rfl, rfl⟩

set_option maxRecDepth 100000 in
set_option maxHeartbeats 4000000 in
theorem pCheckInc_any (x : ByteArray) (i size : Int) (A : Option Addr) (q c : Nat) (ps : List (List UInt8)) (root : List UInt8) (w : World) (hx : x.size ≤ 140737488351232) (hP : Hashs w w.heap.size A q ps) (hqc : q ≤ c) (hr : root.length = 32) :
    Calls Try.prog 29 #[.string x, .int .i64 i, .int .i64 size, .slice A q c, hv root] w fun e w' => e = .returned (.int .i64 (ckIncE (leafH x.data.toList) i size ps root)) ∧ Below w.heap.size w w' := by
  refine callsIn_wide.1 (callsIn_of_wp_marks (n := 10) Try.func29 rfl trivial ?_ rfl)
  have hfr : (#[.string x, .int .i64 i, .int .i64 size, .slice A q c, hv root] ++ Array.replicate (Try.f29.ntmps - (#[.string x, .int .i64 i, .int .i64 size, .slice A q c, hv root] : Array Value).size) undef : Array Value) = #[.string x, .int .i64 i, .int .i64 size, .slice A q c, hv root, undef, undef, undef, undef, undef, undef, undef, undef, undef, undef, undef, undef, undef, undef, undef, undef, undef, undef, undef, undef, undef, undef, undef, undef, undef, undef, undef, undef, undef, undef, undef, undef, undef, undef, undef, undef, undef, undef, undef, undef, undef, undef, undef, undef, undef, undef, undef, undef, undef, undef, undef, undef] := by kernel_rfl
  rw [hfr]
  refine wpIn_wide.2 ?_
  clear hfr
  unfold hv
  by_cases hok : placeOk i size
  · obtain ⟨o1, o2, o3, o4⟩ := id hok
    obtain ⟨n, rfl⟩ : ∃ n : Nat, size = n := ⟨size.toNat, by omega⟩
    obtain ⟨k, rfl⟩ : ∃ n : Nat, i = n := ⟨i.toNat, by omega⟩
    obtain ⟨W, hW⟩ : ∃ W, Mth.way leafB n (k + 1) 0 n = W := ⟨_, rfl⟩
    obtain ⟨g1, g2, -, -, -, -⟩ := way_spec leafB n (k + 1) 0 n (leafB_two _) (by omega) (by omega)
    obtain ⟨y1, y2⟩ := Mth.climb_way nodeH n (leafH x.data.toList) k 0 n ps (by omega) (by omega) (by omega)
    rw [Nat.zero_add, Nat.sub_zero, show Mth.way (fun a b => decide (b - a = 1)) n (k + 1) 0 n = W from hW] at y1 y2
    rw [hW] at g1 g2
    have hE : ckIncE (leafH x.data.toList) k n ps root = if (Mth.climb nodeH n (leafH x.data.toList) k n ps).2 = true ∧ (Mth.climb nodeH n (leafH x.data.toList) k n ps).1 = root then 0 else 1001 := by
      unfold ckIncE
      rw [if_pos hok, Int.toNat_natCast, Int.toNat_natCast]
    obtain ⟨E, hEd⟩ : ∃ E, ckIncE (leafH x.data.toList) k n ps root = E := ⟨_, rfl⟩
    rw [hEd]
    rw [hEd] at hE
    have hE' := hid hE
    have hdn := hid (fun W0 => down_any (k + 1) n 49 #[] leafB W0 (by omega) (by omega) (by omega) (enters_of Try.func49 (by kernel_rfl) rfl) (asks_leaf W0) (leafB_two _))
    rw [hW] at hdn
    have ek : ((k + 1 : Nat) : Int) = (k : Int) + 1 := by omega
    rw [ek] at hdn
    have hl := hP.len
    have hlf := hid (fun W0 => mLeaf_any x W0 hx)
    have hlf32 := hid (leafH_len x.data.toList)
    have hCr := hid (hash_cells root hr)
    have hCl := hid (hash_leaf x.data.toList)
    have hr' := hid hr
    have hP' := hid hP
    have y1' := hid y1
    have y2' := hid y2
    have c1 : ¬ (n : Int) < 1 := by omega
    have c2 : ¬ (256 : Int) < (n : Int) := by omega
    have c3 : ¬ (k : Int) < 0 := by omega
    have c4 : ¬ (n : Int) ≤ (k : Int) := by omega
    have c5 := IntWalk.i64_in ((k : Int) + 1) (by omega)
    obtain ⟨ts, e1, e2⟩ := W
    dsimp only at g1 g2 y1' y2'
    have hB1 := hid ((Below.refl w.heap.size w).alloc (Nat.le_refl _) (.cells (byteCells root).toArray 28))
    have hR1 := hid (Holds.new w 28 (byteCells root).toArray)
    clear hok hE hEd ek hP hr y1 y2 o1 o2 o3 o4 hW
    unfold hv at hlf
    go_wp2_with fail
    refine (hdn.out _).mono ?_
    rintro e W1 ⟨A1, d1, rfl, hat1, hb1⟩
    have hB2 := hid (below_up hb1 hB1.out)
    have hR2 := hid (hR1.out.below hb1 (by simp))
    have hat1' := hid hat1
    clear hb1 hat1
    unfold spanV
    have hB3 := hid (hB2.out.alloc hB2.out.size (.cells #[.int .i64 (e1 : Int), .int .i64 (e2 : Int)] 72))
    have hR3 := hid (hR2.out.alloc (.cells #[.int .i64 (e1 : Int), .int .i64 (e2 : Int)] 72))
    have hat3 := hid (At.alloc hat1'.out (Nat.le_refl _) (.cells #[.int .i64 (e1 : Int), .int .i64 (e2 : Int)] 72))
    by_cases hlen : q = ts.length
    · subst hlen
      go_wp2_with fail
      refine (hlf.out _).mono ?_
      rintro e W4 ⟨rfl, hb4⟩
      have hR4 := hid (hR3.out.below hb4 hR3.out.lt)
      have hB4 := hid (below_up hb4 hB3.out)
      have hz14 : W1.heap.size < W4.heap.size := Nat.lt_of_lt_of_le (by simp) hb4.size
      have hat4 := hid (At.below hat3.out (hb4.mono (by simp)))
      have hw1 := hid hB2.out.size
      clear hb4 hR3 hB3 hat3 hat1'
      rename_i hK1
      refine hK1 _ _ ?_
      clear hK1
      go_wp2_with (first
        | ((with_reducible refine at_slot (some 13) ?_); refine wpList_run rfl (.pointer (some ⟨W4.heap.size, 0, none⟩)) (W4.alloc (.cells z32 28)) (by kernel_rfl) ?_)
        | ((with_reducible refine at_slot none ?_); refine wpList_store_mid rfl 28 (.tmp 13) (.tmp 44) rfl W4.heap.size 0 (byteCells (leafH x.data.toList)).toArray rfl rfl (by exact hCl.out.there W4) (by exact hCl.out.size) (by exact hCl.out.one) ?_; generalize hW5 : World.setCells _ _ _ _ = W5; obtain ⟨hN5, hb5⟩ := hCl.out.new hW5; have hN5' := hid hN5; have hR5 := hid (hR4.out.below hb5 hR4.out.lt); have hB5 := hid (below_up hb5 hB4.out); have hat5 := hid (At.below hat4.out (hb5.mono (by omega))); clear hW5 hN5 hb5)
        | (go_at_call 52; refine (up_any _ _ _ _ _ _ _).mono ?_; rintro e W6 ⟨rfl, hW6⟩; have hW6' := hid hW6; clear hW6))
      have hW6 := hW6'.out
      have hz5 : W4.heap.size < W5.heap.size := hN5'.out.lt
      have hz6 : W6.heap.size = W5.heap.size + 2 := by rw [hW6]; simp
      have hb6 : Below W5.heap.size W5 W6 := by rw [hW6]; exact ((Below.refl _ _).alloc (Nat.le_refl _) _).alloc (by simp) _
      have q1 : W6.cell? ⟨W5.heap.size, 0, none⟩ = some (.slice A1 ts.length d1) := by rw [hW6]; exact ((Holds.new W5 70 #[.slice A1 ts.length d1]).alloc _).cell 0
      have q2 : W6.cell? ⟨W5.heap.size + 1, 0, none⟩ = some (.slice A ts.length c) := by
        have h := (Holds.new (W5.alloc (.cells #[.slice A1 ts.length d1] 70)) 41 #[.slice A ts.length c]).cell 0
        rw [alloc_size] at h
        rw [hW6]
        exact h
      have hN6 := hid (hN5'.out.below hb6 hN5'.out.lt)
      have hR6 := hid (hR5.out.below hb6 hR5.out.lt)
      have hB6 := hid (below_up hb6 hB5.out)
      have hat6 := At.below hat5.out (hb6.mono (by omega))
      have hP6 := hP'.out.below hB6.out
      have hwz := hw1.out
      have hl' := hid hl
      have hstops := hid (up_stops 8 W6.heap.size W4.heap.size W4.heap.size W5.heap.size (W5.heap.size + 1) (by omega) (by omega) (by omega) (by omega) (by omega) (by omega) A1 ts.length d1 ts A c ps rfl hl hP6.2 (by omega) W6 (Nat.le_refl _) q1 q2
        (fun j t ht => by
          have hj := (List.getElem?_eq_some_iff.1 ht).1
          obtain ⟨p, t', hA, hpB, -, ht', hc⟩ := turns_get hat6 rfl hj
          obtain rfl : t' = t := Option.some.inj (ht'.symm.trans ht)
          exact ⟨p, hA, by omega, by omega, by omega, hc⟩)
        (fun j y hy => by
          have hj := (List.getElem?_eq_some_iff.1 hy).1
          obtain ⟨p, y', hA, hpB, -, hy', -, hc⟩ := hP6.get (show j < ts.length by omega)
          obtain rfl : y' = y := Option.some.inj (hy'.symm.trans hy)
          exact ⟨p, hA, by omega, by omega, by omega, hc⟩))
      have hz6' := hid hz6
      clear hW6 hb6 q1 q2 hat6 hP6 hz6
      refine (wpIn_wide (n := 10)).1 ?_
      refine wpIn_rangeFunc_ownH rfl (by omega) (gf := 64) (lb := #[.pointer (some ⟨W5.heap.size, 0, none⟩), .pointer (some ⟨W5.heap.size + 1, 0, none⟩)]) rfl trivial (enters_of Try.func64 (by kernel_rfl) rfl)
        hstops.out KeepE.trans (KeepE.put (Nat.le_refl _)) (Below.refl _ _) (fun _ => rfl)
        (fun pre W => (Holds W W4.heap.size 28 (byteCells (upSo (leafH x.data.toList) pre)) ∧ Holds W w.heap.size 28 (byteCells root) ∧ W6.heap.size ≤ W.heap.size) ∧ Below w.heap.size w W)
        (fun _ _ _ => False)
        (OwnFrom.and (Own.from (fun s A B row hs hg hr => ⟨holds_kept hs.1 hg hr, holds_kept hs.2.1 hg hr, Nat.le_trans hs.2.2 hg.size⟩) _) (ownFrom_below (Nat.le_refl _) (by have := hz6'.out; omega)))
        (fun _ _ _ _ _ hs _ _ => hs)
        ⟨⟨hN6.out, hR6.out, Nat.le_refl _⟩, hB6.out⟩
        (fun y a' W => ∃ b1 b2, a' = { tmps := #[.string x, .int .i64 (k : Int), .int .i64 (n : Int), .slice A ts.length c, .agg (byteCells root).toArray, undef, undef, undef, undef, .pointer (some ⟨w.heap.size, 0, none⟩), .int .i64 0, .slice A1 ts.length d1, .pointer (some ⟨W1.heap.size, 0, none⟩), .pointer (some ⟨W4.heap.size, 0, none⟩), .pointer (some ⟨b1, 0, none⟩), .pointer (some ⟨b2, 0, none⟩), .int .i64 (n : Int), .bool false, .bool false, .int .i64 (n : Int), .bool false, .bool false, .bool false, .int .i64 (k : Int), .bool false, .bool false, .bool false, .int .i64 (k : Int), .int .i64 (n : Int), .bool false, .bool false, .tuple #[.slice A1 ts.length d1, .agg #[.int .i64 (e1 : Int), .int .i64 (e2 : Int)]], .int .i64 (k : Int), .int .i64 ((k : Int) + 1), .int .i64 (n : Int), .tuple #[.slice A1 ts.length d1, .agg #[.int .i64 (e1 : Int), .int .i64 (e2 : Int)]], .slice A1 ts.length d1, .agg #[.int .i64 (e1 : Int), .int .i64 (e2 : Int)], .slice A ts.length c, .int .i64 (ts.length : Int), .slice A1 ts.length d1, .int .i64 (ts.length : Int), .bool false, .string x, .agg (byteCells (leafH x.data.toList)).toArray, .slice A1 ts.length d1, .slice A ts.length c, .func (.func 64) #[] #[.pointer (some ⟨W5.heap.size, 0, none⟩), .pointer (some ⟨W5.heap.size + 1, 0, none⟩)], .agg #[.bool y.1.1.left, .int .i64 (y.1.1.lo : Int), .int .i64 (y.1.1.hi : Int)], .agg (byteCells y.1.2).toArray, undef, undef, undef, undef, undef, undef, undef], defers := [] } ∧ W6.heap.size ≤ b1 ∧ W6.heap.size ≤ b2 ∧ Holds W b1 82 (turnC y.1.1) ∧ Holds W b2 28 (byteCells y.1.2))
        (fun y a' _ A B row hs hg hr => by
          obtain ⟨b1, b2, h1, h2, h3, h4, h5⟩ := hs
          exact ⟨b1, b2, h1, h2, h3, holds_kept h4 hg (fun r e => (hr r e).2), holds_kept h5 hg (fun r e => (hr r e).2)⟩) ?assign ?body ?done ?stop
      case assign =>
        rintro l pre y W K ⟨⟨hH, hR, hsz⟩, hB⟩ hK
        have hCx := hid (hash_cells y.1.2 y.2)
        unfold turnV hv
        gi_wp2_with (first
          | ((with_reducible refine at_slotIn (some 15) ?_); refine wpListIn_run rfl (fun c e => by cases e) rfl (.pointer (some ⟨(W.alloc (.cells #[.bool y.1.1.left, .int .i64 (y.1.1.lo : Int), .int .i64 (y.1.1.hi : Int)] 82)).heap.size, 0, none⟩)) ((W.alloc (.cells #[.bool y.1.1.left, .int .i64 (y.1.1.lo : Int), .int .i64 (y.1.1.hi : Int)] 82)).alloc (.cells z32 28)) (by kernel_rfl) ?_)
          | ((with_reducible refine at_slotIn none ?_); refine wpListIn_store_mid rfl 28 (.tmp 15) (.tmp 49) rfl (W.alloc (.cells #[.bool y.1.1.left, .int .i64 (y.1.1.lo : Int), .int .i64 (y.1.1.hi : Int)] 82)).heap.size 0 (byteCells y.1.2).toArray rfl rfl (by exact hCx.out.there _) (by exact hCx.out.size) (by exact hCx.out.one) ?_)
          | fail)
        obtain ⟨Wq, hWq⟩ : ∃ Wq, W.alloc (.cells #[.bool y.1.1.left, .int .i64 (y.1.1.lo : Int), .int .i64 (y.1.1.hi : Int)] 82) = Wq := ⟨_, rfl⟩
        have hzq : Wq.heap.size = W.heap.size + 1 := by rw [← hWq]; simp
        have hbq : Below W.heap.size W Wq := by rw [← hWq]; exact (Below.refl _ _).alloc (Nat.le_refl _) _
        have hT : Holds Wq W.heap.size 82 (turnC y.1.1) := by rw [← hWq]; exact Holds.new W _ _
        rw [hWq]
        obtain ⟨W', hW'⟩ : ∃ W', (Wq.alloc (.cells z32 28)).setCells Wq.heap.size 0 (byteCells y.1.2) = W' := ⟨_, rfl⟩
        obtain ⟨hX, hbx⟩ := hCx.out.new hW'
        rw [hzq] at hW' hX
        rw [hW']
        have hb' : Below W.heap.size W W' := hbq.trans (hbx.mono (by omega))
        refine hK _ _ ⟨hb'.size, fun i o _ hi _ => (hb'.block i (Array.getElem?_eq_some_iff.1 hi).1).trans hi⟩ (KeepE.below hsz hb') ⟨⟨hH.below hb' hH.lt, hR.below hb' hR.lt, Nat.le_trans hsz hb'.size⟩, hB.trans (hb'.mono hB.size)⟩ ⟨W.heap.size, W.heap.size + 1, rfl, hsz, by omega, hT.below hbx hT.lt, hX⟩
      case body =>
        rintro l pre y a' W hl ⟨r0, hr0⟩ ⟨⟨hH, hR, hsz⟩, hB⟩ ⟨b1, b2, rfl, hb1, hb2, hT, hX⟩ hlt
        have hr32 := upSo_len _ hlf32.out pre
        have hj := hid (fun W => join_any y.1.1 (upSo (leafH x.data.toList) pre) y.1.2 hr32 y.2 W)
        have hCn := hid (hash_cells _ (oneUp_len y.1.1 (upSo (leafH x.data.toList) pre) y.1.2))
        have hsn := hid (upSo_snoc (leafH x.data.toList) pre y)
        have hi1 : (Try.prog.info? 28).map (·.size) = some (byteCells y.1.2).length := (hash_cells y.1.2 y.2).size'
        have hi2 : (Try.prog.info? 28).map (·.size) = some (byteCells (upSo (leafH x.data.toList) pre)).length := (hash_cells _ hr32).size'
        have hrl : (byteCells (upSo (leafH x.data.toList) pre)).length = 32 := (hash_cells _ hr32).len
        unfold hv turnV at hj
        have hH' := hid hH
        have hR' := hid hR
        have hB' := hid hB
        have hX' := hid hX
        have hT' := hid hT
        generalize Mth.oneUp nodeH y.1.1 (upSo (leafH x.data.toList) pre) y.1.2 = nd at *
        clear hH hR hB hX hT
        gi_wp2_with (first
          | ((with_reducible refine at_slotIn (some 50) ?_); refine wpListIn_load_mid rfl 82 (.tmp 14) rfl b1 0 rfl [.bool y.1.1.left, .int .i64 (y.1.1.lo : Int), .int .i64 (y.1.1.hi : Int)] _ (by exact h_all hT'.out) Try.underlying82 rfl (by kernel_rfl) ?_)
          | ((with_reducible refine at_slotIn (some 51) ?_); refine wpListIn_load_mid rfl 28 (.tmp 13) rfl W4.heap.size 0 rfl (byteCells (upSo (leafH x.data.toList) pre)) _ (by exact h_all hH'.out) Try.underlying28 rfl (by exact hi2) ?_)
          | ((with_reducible refine at_slotIn (some 52) ?_); refine wpListIn_load_mid rfl 28 (.tmp 15) rfl b2 0 rfl (byteCells y.1.2) _ (by exact h_all hX'.out) Try.underlying28 rfl (by exact hi1) ?_)
          | fail)
        refine ⟨trivial, (CallsIn.inRound l (callsIn_wide.2 (hj.out W))).mono ?_⟩
        rintro e W7 ⟨rfl, hb7⟩
        have hH7 := hid (hH'.out.below hb7 hH'.out.lt)
        have hR7 := hid (hR'.out.below hb7 hR'.out.lt)
        gi_wp2_with ((with_reducible refine at_slotIn none ?_); refine wpListIn_store_mid rfl 28 (.tmp 13) (.tmp 53) rfl W4.heap.size 0 (byteCells nd).toArray rfl rfl (by exact hCn.out.there' hH7.out hrl) (by exact hCn.out.size) (by exact hCn.out.one) ?_)
        obtain ⟨W8, hW8⟩ : ∃ W8, W7.setCells W4.heap.size 0 (byteCells nd) = W8 := ⟨_, rfl⟩
        have hwz := hw1.out
        obtain ⟨hH8, hB8⟩ := hCn.out.set (w := w) hH7.out hrl hW8 (hB'.out.trans (hb7.mono hB'.out.size)) (by omega)
        have hR8 : Holds W8 w.heap.size 28 (byteCells root) := by rw [← hW8]; exact hR7.out.fars _ _ _ (by omega)
        have hbq := below_setCells (Below.refl W4.heap.size W7) W4.heap.size 0 (byteCells nd) (Nat.le_refl _)
        have hg : W.grownBy W8 (some W4.heap.size) := by
          rw [← hW8]
          exact ⟨hbq.os.trans hb7.os, hbq.tape.trans hb7.tape, hbq.output.trans hb7.output, Nat.le_trans hb7.size hbq.size, fun k hk hne => (cells_far _ _ _ _ _ (fun e => hne (by rw [e]))).trans (hb7.block k hk)⟩
        rw [hW8]
        have hk := hz6'.out
        refine ⟨KeepsFrom.of_grownBy hg (fun j e => by have := Option.some.inj e; omega), KeepE.grown1 hsz hg, ⟨?_, hR8, Nat.le_trans hsz hg.size⟩, hB8⟩
        rw [hsn.out]
        exact hH8
      case done =>
        rintro D ys W hD hys ⟨⟨hH, hR, hsz⟩, hB⟩ hK
        rw [upSo_all (leafH x.data.toList) ts ps hl'.out.symm ys hys] at hH
        have hU := y2'.out hl'.out
        have hok := y1'.out.2 hl'.out
        have hE1 := hE'.out
        rw [hU] at hE1
        have hE2 := hid hE1
        have hok' := hid hok
        have hU32 : (Mth.upAll nodeH (leafH x.data.toList) ts ps).length = 32 := by
          rw [← upSo_all (leafH x.data.toList) ts ps hl'.out.symm ys hys]
          exact upSo_len _ hlf32.out ys
        have hK' := hid hK
        have hH' := hid hH
        have hR' := hid hR
        have hB' := hid hB
        have hD' := hid hD
        have hz6'' := hz6'
        generalize Mth.upAll nodeH (leafH x.data.toList) ts ps = U at *
        have hCU := hid (hash_cells U hU32)
        have hr0 := hid hr'.out
        have hU0 := hid hU32
        clear hK hH hR hB hU hok hE1 hU32 hys hD
        by_cases hUr : U = root
        · subst hUr
          have hb : (!(U == U)) = false := by simp
          have hb' := hid hb
          clear hb
          go_wp2_with (first
            | ((with_reducible refine at_slot (some 54) ?_); refine wpList_load_mid rfl 28 (.tmp 13) rfl W4.heap.size 0 rfl (byteCells U) _ (by exact h_all hH'.out) Try.underlying28 rfl (by exact hCU.out.size') ?_)
            | ((with_reducible refine at_slot (some 55) ?_); refine wpList_load_mid rfl 28 (.tmp 9) rfl w.heap.size 0 rfl (byteCells U) _ (by exact h_all hR'.out) Try.underlying28 rfl (by exact hCU.out.size') ?_)
            | ((with_reducible refine at_slot (some 56) ?_); refine wpList_hneq rfl (.tmp 54) (.tmp 55) _ rfl U U hU0.out hU0.out rfl rfl ?_; rw [hb'.out])
            | fail)
          refine ⟨by simp, .inl ⟨_, _, rfl, run_takeDeferred hK'.out, ?_⟩⟩
          exact ⟨_, results_tmp rfl _ _ _, by rw [hE2.out, if_pos ⟨hok'.out, by first | rfl | trivial⟩]; rfl, hB'.out.trans (belowK_b (w := w) (Nat.le_refl _) W D _ _ (by have h1 := hD'.out; have h2 := hz6''.out; have h3 := hw1.out; omega) hK'.out rfl rfl)⟩
        · have hb : (!(U == root)) = true := by simpa using hUr
          have hb' := hid hb
          clear hb
          go_wp2_with (first
            | ((with_reducible refine at_slot (some 54) ?_); refine wpList_load_mid rfl 28 (.tmp 13) rfl W4.heap.size 0 rfl (byteCells U) _ (by exact h_all hH'.out) Try.underlying28 rfl (by exact hCU.out.size') ?_)
            | ((with_reducible refine at_slot (some 55) ?_); refine wpList_load_mid rfl 28 (.tmp 9) rfl w.heap.size 0 rfl (byteCells root) _ (by exact h_all hR'.out) Try.underlying28 rfl (by exact hCr.out.size') ?_)
            | ((with_reducible refine at_slot (some 56) ?_); refine wpList_hneq rfl (.tmp 54) (.tmp 55) _ rfl U root hU0.out hr0.out rfl rfl ?_; rw [hb'.out])
            | fail)
          refine ⟨by simp, .inl ⟨_, _, rfl, run_takeDeferred hK'.out, ?_⟩⟩
          exact ⟨_, results_tmp rfl _ _ _, by rw [hE2.out, if_neg (fun h => hUr h.2)]; rfl, hB'.out.trans (belowK_b (w := w) (Nat.le_refl _) W D _ _ (by have h1 := hD'.out; have h2 := hz6''.out; have h3 := hw1.out; omega) hK'.out rfl rfl)⟩
      case stop =>
        rintro D c pre W _ _ h _
        exact h.elim
    · have hli : ¬ (q : Int) = (ts.length : Int) := by omega
      have hno : ¬ ((Mth.climb nodeH n (leafH x.data.toList) k n ps).2 = true ∧ (Mth.climb nodeH n (leafH x.data.toList) k n ps).1 = root) := fun h => hlen (by rw [← hl]; exact y1'.out.1 h.1)
      go_wp2_with fail
      exact ⟨_, results_tmp rfl _ _ _, by rw [hE'.out, if_neg hno]; rfl, hB3.out⟩
  · have hE : ckIncE (leafH x.data.toList) i size ps root = 1000 := if_neg hok
    rw [hE]
    have hno : size < 1 ∨ 256 < size ∨ i < 0 ∨ size ≤ i := by
      unfold placeOk at hok
      omega
    clear hok hE hP
    have hB := hid ((Below.refl w.heap.size w).alloc (Nat.le_refl _) (.cells (byteCells root).toArray 28))
    by_cases c1 : size < 1
    · go_wp2_with fail
      exact ⟨_, results_tmp rfl _ _ _, rfl, hB.out⟩
    · by_cases c2 : 256 < size
      · go_wp2_with fail
        exact ⟨_, results_tmp rfl _ _ _, rfl, hB.out⟩
      · by_cases c3 : i < 0
        · go_wp2_with fail
          exact ⟨_, results_tmp rfl _ _ _, rfl, hB.out⟩
        · have c4 : size ≤ i := by omega
          go_wp2_with fail
          exact ⟨_, results_tmp rfl _ _ _, rfl, hB.out⟩

end Go.Proofs.Ytenfhmpjhbpkpaa
namespace Go.Proofs.Ytenfhmpjhbpkpaa
open Go.RowKit

/-- A beginning that may be. -/
def partOk (m size : Int) : Prop := 1 ≤ size ∧ size ≤ 256 ∧ 1 ≤ m ∧ m ≤ size
instance partD (m size : Int) : Decidable (partOk m size) := by unfold partOk; exact inferInstance

/-- What a check of a beginning answers. -/
def ckConE (m : Int) (old : List UInt8) (size : Int) (root : List UInt8) (ps : List (List UInt8)) : Int :=
  if partOk m size then (if (Mth.rise nodeH size.toNat old m.toNat size.toNat true ps).2.2 = true ∧ (Mth.rise nodeH size.toNat old m.toNat size.toNat true ps).1 = old ∧ (Mth.rise nodeH size.toNat old m.toNat size.toNat true ps).2.1 = root then 0 else 1001) else 1000

end Go.Proofs.Ytenfhmpjhbpkpaa
namespace Go.Proofs.Ytenfhmpjhbpkpaa
open Go.RowKit
attribute [local irreducible] Sha.compress Sha.blocks Sha.sha Sha.pad

theorem seg_two (xs : List ByteArray) (lo hi k : Nat) (hl : hi ≤ xs.length) (h : 2 ≤ hi - lo) (hk : Mth.cut (hi - lo) = k) : rootH (Mth.seg xs lo hi) = nodeH (rootH (Mth.seg xs lo (lo + k))) (rootH (Mth.seg xs (lo + k) hi)) := by
  have hs := Mth.seg_length xs lo hi hl
  obtain ⟨c1, c2, -, -⟩ := Mth.cut_spec (hi - lo) h
  rw [rootH_two _ (by omega), hs, hk, Mth.seg_take xs lo hi k (by omega), Mth.seg_drop]

theorem up_roots (stop : Nat → Nat → Bool) : ∀ (f m lo hi : Nat) (xs : List ByteArray), hi ≤ xs.length → (∀ a b, a < m → m ≤ b → stop a b = false → 2 ≤ b - a) → lo < m → m ≤ hi →
    Mth.upAll nodeH (rootH (Mth.seg xs (Mth.way stop f m lo hi).2.1 (Mth.way stop f m lo hi).2.2)) (Mth.way stop f m lo hi).1 (rootsH xs (Mth.way stop f m lo hi).1) = rootH (Mth.seg xs lo hi)
  | 0, m, lo, hi, xs, hl, hst, h1, h2 => by simp [Mth.way, rootsH, Mth.upAll]
  | f + 1, m, lo, hi, xs, hl, hst, h1, h2 => by
    by_cases hs : stop lo hi = true
    · simp [Mth.way, hs, rootsH, Mth.upAll]
    · have hs0 : stop lo hi = false := by simpa using hs
      have h3 := hst lo hi h1 h2 hs0
      obtain ⟨c1, c2, -, -⟩ := Mth.cut_spec (hi - lo) h3
      have e := seg_two xs lo hi _ hl h3 rfl
      by_cases hm : m ≤ lo + Mth.cut (hi - lo)
      · have ih := up_roots stop f m lo (lo + Mth.cut (hi - lo)) xs (by omega) hst h1 hm
        unfold rootsH at ih ⊢
        simp only [Mth.way, hs, Bool.false_eq_true, if_false, if_pos hm, List.map_append, List.map_cons, List.map_nil]
        rw [Mth.upAll_snoc nodeH _ _ _ _ _ (by simp), ih, e]
        rfl
      · have ih := up_roots stop f m (lo + Mth.cut (hi - lo)) hi xs hl hst (by omega) h2
        unfold rootsH at ih ⊢
        simp only [Mth.way, hs, Bool.false_eq_true, if_false, if_neg hm, List.map_append, List.map_cons, List.map_nil]
        rw [Mth.upAll_snoc nodeH _ _ _ _ _ (by simp), ih, e]
        rfl

theorem bef_roots (m : Nat) : ∀ (f lo hi : Nat) (xs : List ByteArray), hi ≤ xs.length → lo < m → m ≤ hi → hi - lo ≤ f + 1 →
    Mth.befAll nodeH (rootH (Mth.seg xs (Mth.way (endB m) f m lo hi).2.1 (Mth.way (endB m) f m lo hi).2.2)) (Mth.way (endB m) f m lo hi).1 (rootsH xs (Mth.way (endB m) f m lo hi).1) = rootH (Mth.seg xs lo m)
  | 0, lo, hi, xs, hl, h1, h2, h3 => by
    obtain rfl : hi = m := by omega
    simp [Mth.way, rootsH, Mth.befAll]
  | f + 1, lo, hi, xs, hl, h1, h2, h3 => by
    by_cases hh : hi = m
    · subst hh
      simp [Mth.way, endB, rootsH, Mth.befAll]
    · have hs0 : endB m lo hi = false := decide_eq_false hh
      obtain ⟨c1, c2, c3, a, ha⟩ := Mth.cut_spec (hi - lo) (by omega)
      by_cases hm : m ≤ lo + Mth.cut (hi - lo)
      · have ih := bef_roots m f lo (lo + Mth.cut (hi - lo)) xs (by omega) h1 hm (by omega)
        unfold rootsH at ih ⊢
        simp only [Mth.way, hs0, Bool.false_eq_true, if_false, if_pos hm, List.map_append, List.map_cons, List.map_nil]
        rw [Mth.befAll_snoc nodeH _ _ _ _ _ (by simp), ih]
        rfl
      · have ih := bef_roots m f (lo + Mth.cut (hi - lo)) hi xs hl (by omega) h2 (by omega)
        have e := seg_two xs lo m (Mth.cut (hi - lo)) (by omega) (by omega) (by rw [ha]; exact Mth.cut_eq _ a (by omega) (by omega))
        unfold rootsH at ih ⊢
        simp only [Mth.way, hs0, Bool.false_eq_true, if_false, if_neg hm, List.map_append, List.map_cons, List.map_nil]
        rw [Mth.befAll_snoc nodeH _ _ _ _ _ (by simp), ih, e]
        rfl

/-- The way ends where it may. -/
theorem way_stops (stop : Nat → Nat → Bool) : ∀ (f m lo hi : Nat), (∀ a b, a < m → m ≤ b → stop a b = false → 2 ≤ b - a) → lo < m → m ≤ hi → hi - lo ≤ f + 1 →
    stop (Mth.way stop f m lo hi).2.1 (Mth.way stop f m lo hi).2.2 = true
  | 0, m, lo, hi, hst, h1, h2, h3 => by
    cases hs : stop lo hi
    · have := hst lo hi h1 h2 hs
      omega
    · simpa [Mth.way] using hs
  | f + 1, m, lo, hi, hst, h1, h2, h3 => by
    by_cases hs : stop lo hi = true
    · simp [Mth.way, hs]
    · have hs0 : stop lo hi = false := by simpa using hs
      obtain ⟨c1, c2, -, -⟩ := Mth.cut_spec (hi - lo) (hst lo hi h1 h2 hs0)
      by_cases hm : m ≤ lo + Mth.cut (hi - lo)
      · have ih := way_stops stop f m lo (lo + Mth.cut (hi - lo)) hst h1 hm (by omega)
        simpa only [Mth.way, hs, Bool.false_eq_true, if_false, if_pos hm] using ih
      · have ih := way_stops stop f m (lo + Mth.cut (hi - lo)) hi hst (by omega) h2 (by omega)
        simpa only [Mth.way, hs, Bool.false_eq_true, if_false, if_neg hm] using ih

theorem seg_one (xs : List ByteArray) (i : Nat) (x : ByteArray) (h : xs[i]? = some x) : Mth.seg xs i (i + 1) = [x] := by
  obtain ⟨hi, hx⟩ := List.getElem?_eq_some_iff.1 h
  unfold Mth.seg
  apply List.ext_getElem?
  intro j
  rw [List.getElem?_drop]
  cases j with
  | zero => simp [hi, hx]
  | succ j =>
    rw [List.getElem?_take, if_neg (by omega)]
    rfl

theorem inc_ok (xs : List ByteArray) (i : Nat) (x : ByteArray) (h : xs[i]? = some x) (hn : xs.length ≤ 256) : ckIncE (leafH x.data.toList) i xs.length (incL xs i) (rootH xs) = 0 ∧
    ∀ r, ckIncE (leafH x.data.toList) i xs.length (incL xs i ++ [r]) (rootH xs) = 1001 := by
  have hi := (List.getElem?_eq_some_iff.1 h).1
  have hok : incOk xs i := ⟨hn, by omega, by omega⟩
  have hpl : placeOk i xs.length := ⟨by omega, by omega, by omega, by omega⟩
  have e1 : incL xs i = Mth.pathOf rootH i xs := by rw [incL, if_pos hok, Int.toNat_natCast]
  have hr := path_roots xs i hi
  obtain ⟨-, -, s1, s2, s3, -⟩ := way_spec leafB xs.length (i + 1) 0 xs.length (leafB_two _) (by omega) (by omega)
  have hst := way_stops leafB xs.length (i + 1) 0 xs.length (leafB_two _) (by omega) (by omega) (by omega)
  have hst' : (Mth.way leafB xs.length (i + 1) 0 xs.length).2.2 - (Mth.way leafB xs.length (i + 1) 0 xs.length).2.1 = 1 := of_decide_eq_true hst
  have q1 : (Mth.way leafB xs.length (i + 1) 0 xs.length).2.1 = i := by omega
  have q2 : (Mth.way leafB xs.length (i + 1) 0 xs.length).2.2 = i + 1 := by omega
  have hu := up_roots leafB xs.length (i + 1) 0 xs.length xs (Nat.le_refl _) (leafB_two _) (by omega) (by omega)
  rw [q1, q2, seg_one xs i x h, rootH_one, Mth.seg_all, hr] at hu
  have hlen : (Mth.pathOf rootH i xs).length = (Mth.way leafB xs.length (i + 1) 0 xs.length).1.length := by rw [← hr, rootsH, List.length_map]
  rw [e1]
  refine ⟨?_, fun r => ?_⟩
  · obtain ⟨y1, y2⟩ := Mth.climb_way nodeH xs.length (leafH x.data.toList) i 0 xs.length (Mth.pathOf rootH i xs) (by omega) (by omega) (by omega)
    rw [Nat.zero_add, Nat.sub_zero, show Mth.way (fun a b => decide (b - a = 1)) xs.length (i + 1) 0 xs.length = Mth.way leafB xs.length (i + 1) 0 xs.length from rfl] at y1 y2
    unfold ckIncE
    rw [if_pos hpl, Int.toNat_natCast, Int.toNat_natCast, if_pos ⟨y1.2 hlen, by rw [y2 hlen, hu]⟩]
  · obtain ⟨y1, -⟩ := Mth.climb_way nodeH xs.length (leafH x.data.toList) i 0 xs.length (Mth.pathOf rootH i xs ++ [r]) (by omega) (by omega) (by omega)
    rw [Nat.zero_add, Nat.sub_zero, show Mth.way (fun a b => decide (b - a = 1)) xs.length (i + 1) 0 xs.length = Mth.way leafB xs.length (i + 1) 0 xs.length from rfl] at y1
    unfold ckIncE
    rw [if_pos hpl, Int.toNat_natCast, Int.toNat_natCast, if_neg (fun hh => by have h5 := y1.1 hh.1; rw [List.length_append, hlen, List.length_singleton] at h5; omega)]

theorem con_ok (xs : List ByteArray) (m : Nat) (h1 : 1 ≤ m) (h2 : m ≤ xs.length) (hn : xs.length ≤ 256) : ckConE m (rootH (xs.take m)) xs.length (rootH xs) (conL xs m) = 0 ∧
    ∀ r, ckConE m (rootH (xs.take m)) xs.length (rootH xs) (conL xs m ++ [r]) = 1001 := by
  have hok : conOk xs m := ⟨hn, by omega, by omega⟩
  have hpl : partOk m xs.length := ⟨by omega, by omega, by omega, by omega⟩
  have e1 : conL xs m = Mth.subOf rootH m xs true := by rw [conL, if_pos hok, Int.toNat_natCast]
  have hr := sub_roots xs m h1 h2
  obtain ⟨-, -, s1, s2, s3, -⟩ := way_spec (endB m) xs.length m 0 xs.length (endB_two _) (by omega) (by omega)
  have hst := way_stops (endB m) xs.length m 0 xs.length (endB_two _) (by omega) (by omega) (by omega)
  have q2 : (Mth.way (endB m) xs.length m 0 xs.length).2.2 = m := of_decide_eq_true hst
  have hu := up_roots (endB m) xs.length m 0 xs.length xs (Nat.le_refl _) (endB_two _) (by omega) (by omega)
  have hb := bef_roots m xs.length 0 xs.length xs (Nat.le_refl _) (by omega) (by omega) (by omega)
  rw [Mth.seg_all] at hu
  have hsm : Mth.seg xs 0 m = xs.take m := by simp [Mth.seg]
  rw [hsm] at hb
  have hlen : (Mth.subOf rootH m xs true).length = Mth.ahead (Mth.way (endB m) xs.length m 0 xs.length).2 + (Mth.way (endB m) xs.length m 0 xs.length).1.length := by
    rw [← hr, List.length_append, rootsH, List.length_map]
    unfold Mth.ahead
    by_cases h0 : 0 < (Mth.way (endB m) xs.length m 0 xs.length).2.1
    · rw [if_pos h0, if_pos h0]; rfl
    · rw [if_neg h0, if_neg h0]; rfl
  have hfirst : ((Mth.subOf rootH m xs true).take (Mth.ahead (Mth.way (endB m) xs.length m 0 xs.length).2)).headD (rootH (xs.take m)) = rootH (Mth.seg xs (Mth.way (endB m) xs.length m 0 xs.length).2.1 (Mth.way (endB m) xs.length m 0 xs.length).2.2) ∧
      (Mth.subOf rootH m xs true).drop (Mth.ahead (Mth.way (endB m) xs.length m 0 xs.length).2) = rootsH xs (Mth.way (endB m) xs.length m 0 xs.length).1 := by
    rw [← hr]
    unfold Mth.ahead
    by_cases h0 : 0 < (Mth.way (endB m) xs.length m 0 xs.length).2.1
    · rw [if_pos h0, if_pos h0]
      exact ⟨rfl, rfl⟩
    · have q1 : (Mth.way (endB m) xs.length m 0 xs.length).2.1 = 0 := by omega
      rw [if_neg h0, if_neg h0, q1, q2, hsm]
      exact ⟨rfl, rfl⟩
  rw [e1]
  have hts : decide ((0 : Nat) = 0) = true := rfl
  refine ⟨?_, fun r => ?_⟩
  · obtain ⟨y1, y2⟩ := Mth.rise_way nodeH xs.length (rootH (xs.take m)) m 0 xs.length (Mth.subOf rootH m xs true) (by omega) (by omega) (by omega)
    rw [Nat.sub_zero, Nat.sub_zero, hts, show Mth.way (fun _ b => decide (b = m)) xs.length m 0 xs.length = Mth.way (endB m) xs.length m 0 xs.length from rfl] at y1 y2
    obtain ⟨z1, z2⟩ := y2 hlen
    rw [hfirst.1, hfirst.2] at z1 z2
    unfold ckConE
    rw [if_pos hpl, Int.toNat_natCast, Int.toNat_natCast, if_pos ⟨y1.2 hlen, by rw [z1, hb], by rw [z2, hu]⟩]
  · obtain ⟨y1, -⟩ := Mth.rise_way nodeH xs.length (rootH (xs.take m)) m 0 xs.length (Mth.subOf rootH m xs true ++ [r]) (by omega) (by omega) (by omega)
    rw [Nat.sub_zero, Nat.sub_zero, hts, show Mth.way (fun _ b => decide (b = m)) xs.length m 0 xs.length = Mth.way (endB m) xs.length m 0 xs.length from rfl] at y1
    unfold ckConE
    rw [if_pos hpl, Int.toNat_natCast, Int.toNat_natCast, if_neg (fun hh => by have h5 := y1.1 hh.1; rw [List.length_append, hlen, List.length_singleton] at h5; omega)]

end Go.Proofs.Ytenfhmpjhbpkpaa
