/- Layer 5, the program's side: Sign.
   Layer 5, the program's side: parse.
   Layer 5, the program's side: Verify.
   Layer 5, the program's side: Verify of what has the form. -/
import Derived.Test.YtmfajekfipfjpaaGreatLmNo
import Derived.Test.YtmfajekfipfjpaaGreatOtsSg
import Derived.Test.YtmfajekfipfjpaaGreatRefBe
set_option maxRecDepth 100000
namespace Go.Proofs.YtmfajekfipfjpaaGreat
open Go.RowKit Go.Shelf
open Go.Lib (strCells strCells_length strCells_oneCell)
attribute [local irreducible] Sha.compress Sha.blocks Sha.sha Sha.pad
attribute [local go_sem] Oper.semAt_some

theorem mixedP : Tryz.prog.follows .mixedOrders = true := by kernel_rfl
theorem results_tct {P : Program} {fn : Func} {p q r : Tmp} {ty : TypeId} (h : fn.results = #[.tmp p, .cell q ty, .tmp r]) (tmps : Array Value) (w : World) (g : Nat) (t : TypeId) (cs : Array Value) (fr : Nat × Nat) (d : TypeDesc) (x z : Value)
    (hp : tmps.getD p undef = x) (hq : tmps.getD q undef = .pointer (some ⟨g, 0, none⟩)) (hg : w.heap[g]? = some (.cells cs t fr)) (hr : tmps.getD r undef = z)
    (hu : P.underlying ty = some d) (hd : (match d with | .struct _ | .array _ _ => true | _ => false) = true) (hi : (P.info? ty).map (·.size) = some cs.size) :
    (results fn tmps).run P w = .ok (.tuple #[x, .agg cs, z]) w := by
  have hp' : tmps[p]?.getD undef = x := by simpa using hp
  have hq' : tmps[q]?.getD undef = .pointer (some ⟨g, 0, none⟩) := by simpa using hq
  have hr' : tmps[r]?.getD undef = z := by simpa using hr
  simp [results, h, hp', hq', hr', asAddr, run_loadVar_row w g t ty cs fr d hg hu hd hi]
/-- The zero key's cells. -/
def zk : List Value := keyC 0 0 ⟨#[]⟩ ⟨#[]⟩ 0
theorem zk_one : zk.toArray.all (·.oneCell') = true := by simp [zk, keyC, Value.oneCell']
theorem keyC_one (o ht : Int) (id seed : ByteArray) (nx : Int) : (keyC o ht id seed nx).toArray.all (·.oneCell') = true := by simp [keyC, Value.oneCell']
theorem Holds.over {W W3 : World} {g : Nat} {t : TypeId} {cs ds : List Value} (h : Holds W g t ds) (hl : cs.length = ds.length) (e : W.setCells g 0 cs = W3) : Holds W3 g t cs := by
  subst e
  have h1 := h.put 0 cs (by rw [hl]; omega)
  rw [put_all _ _ hl] at h1
  exact h1

/-! The row of the nodes beside the way, as it is filled. -/
def rowL (nd : Nat → List UInt8) (s : Nat → Nat) (h : Nat) (f : Nat → Bool) : List (List UInt8) := (List.range h).map fun i => if f i then nd (s i) else h0
section
variable {nd : Nat → List UInt8} {s : Nat → Nat} {h : Nat} {f f' : Nat → Bool}
theorem rowL_len : (rowL nd s h f).length = h := by unfold rowL; rw [List.length_map, List.length_range]
theorem rowL_32 (hn : ∀ r, (nd r).length = 32) : ∀ x ∈ rowL nd s h f, x.length = 32 := fun x hx => by
  unfold rowL at hx
  obtain ⟨i, -, rfl⟩ := List.mem_map.1 hx
  split
  · exact hn _
  · rfl
theorem rowL_congr (e : ∀ i, i < h → f i = f' i) : rowL nd s h f = rowL nd s h f' := by
  unfold rowL
  apply List.map_congr_left
  intro i hi
  rw [e i (List.mem_range.1 hi)]
theorem rowL_none : rowL nd s h (fun _ => false) = List.replicate h h0 := by
  apply List.ext_getElem
  · rw [rowL_len, List.length_replicate]
  · intro i h1 h2
    simp [rowL]
theorem rowL_all (e : ∀ i, i < h → f i = true) : rowL nd s h f = (List.range h).map fun i => nd (s i) := by
  unfold rowL
  apply List.map_congr_left
  intro i hi
  rw [e i (List.mem_range.1 hi)]
  rfl
theorem rowL_set {k : Nat} (e : ∀ i, i < h → f' i = (f i || i == k)) : (rowL nd s h f).set k (nd (s k)) = rowL nd s h f' := by
  apply List.ext_getElem
  · rw [List.length_set, rowL_len, rowL_len]
  · intro i h1 h2
    have hi : i < h := by rw [rowL_len] at h2; exact h2
    simp only [rowL, List.getElem_set, List.getElem_map, List.getElem_range]
    rw [e i hi]
    by_cases hk : k = i
    · subst hk
      simp
    · have : (i == k) = false := by rw [beq_eq_false_iff_ne]; exact fun h => hk h.symm
      rw [if_neg hk, this, Bool.or_false]
end
/-- Which places are filled: those of nodes seen before, and of node x so far. -/
def seenF (s : Nat → Nat) (pre : List Nat) : Nat → Bool := fun i => decide (s i ∈ pre)
def moreF {h : Nat} (s : Nat → Nat) (pre : List Nat) (x : Nat) (pre2 : List (Fin h)) : Nat → Bool := fun i => decide (s i ∈ pre) || (decide (s i = x) && pre2.any fun y => y.val == i)
theorem moreF_nil {h : Nat} (s : Nat → Nat) (pre : List Nat) (x i : Nat) : moreF (h := h) s pre x [] i = seenF s pre i := by unfold moreF seenF; simp
theorem moreF_hit {h : Nat} {s : Nat → Nat} {pre : List Nat} {x : Nat} {pre2 : List (Fin h)} {k : Fin h} (e : s k = x) (i : Nat) : moreF s pre x (pre2 ++ [k]) i = (moreF s pre x pre2 i || i == (k : Nat)) := by
  unfold moreF
  rw [List.any_append]
  by_cases hi : i = (k : Nat)
  · subst hi
    simp [e]
  · have h1 : (i == (k : Nat)) = false := by rw [beq_eq_false_iff_ne]; exact hi
    have h2 : ((k : Nat) == i) = false := by rw [beq_eq_false_iff_ne]; exact fun h => hi h.symm
    simp only [List.any_cons, List.any_nil, h1, h2, Bool.or_false]
theorem moreF_miss {h : Nat} {s : Nat → Nat} {pre : List Nat} {x : Nat} {pre2 : List (Fin h)} {k : Fin h} (e : s k ≠ x) (i : Nat) : moreF s pre x (pre2 ++ [k]) i = moreF s pre x pre2 i := by
  unfold moreF
  rw [List.any_append]
  by_cases hi : i = (k : Nat)
  · subst hi
    rw [decide_eq_false e, Bool.false_and, Bool.false_and]
  · have h2 : ((k : Nat) == i) = false := by rw [beq_eq_false_iff_ne]; exact fun h => hi h.symm
    simp only [List.any_cons, List.any_nil, h2, Bool.or_false]
theorem moreF_all {h : Nat} {s : Nat → Nat} {pre : List Nat} {x : Nat} (i : Nat) (hi : i < h) : moreF s pre x (List.finRange h) i = seenF s (pre ++ [x]) i := by
  have ha : (List.finRange h).any (fun y => y.val == i) = true := List.any_eq_true.2 ⟨⟨i, hi⟩, List.mem_finRange _, by simp⟩
  unfold moreF seenF
  rw [ha, Bool.and_true]
  simp [List.mem_append]

/-- What lies where while the path is gathered. -/
structure SgSt (w : World) (g n5 : Nat) (kc : List Value) (h : Nat) (L : List (List UInt8)) (W : World) : Prop where
  row : Holds W g 60 (hashCells L)
  sl : Holds W (g + 1) 72 [.slice (some ⟨g, 0, none⟩) h h]
  k : Holds W w.heap.size 39 kc
  z : Holds W (w.heap.size + 1) 39 zk
  b : Below w.heap.size w W
  n : n5 ≤ W.heap.size
section
variable {w W W' : World} {g n5 h : Nat} {kc : List Value} {L : List (List UInt8)}
theorem SgSt.below (S : SgSt w g n5 kc h L W) (hb : Below W.heap.size W W') : SgSt w g n5 kc h L W' := ⟨S.row.below hb S.row.lt, S.sl.below hb S.sl.lt, S.k.below hb S.k.lt, S.z.below hb S.z.lt, below_up hb S.b, Nat.le_trans S.n hb.size⟩
theorem SgSt.grown (S : SgSt w g n5 kc h L W) (ho : w.heap.size + 1 < g) (ho2 : g + 1 < n5) {row : Option Nat} (hg : W.grownBy W' row) (hr : ∀ r, row = some r → n5 ≤ r) : SgSt w g n5 kc h L W' :=
  ⟨S.row.grown hg (fun e => by have := hr _ e.symm; omega), S.sl.grown hg (fun e => by have := hr _ e.symm; omega), S.k.grown hg (fun e => by have := hr _ e.symm; omega), S.z.grown hg (fun e => by have := hr _ e.symm; omega), S.b.grown hg (by have := S.k.lt; omega) (fun k e => by have := hr _ e; omega), Nat.le_trans S.n hg.size⟩
theorem SgSt.set (S : SgSt w g n5 kc h L W) (ho : w.heap.size + 1 < g) (h32 : ∀ x ∈ L, x.length = 32) (hl : L.length = h) {k : Nat} (hk : k < h) (x : List UInt8) (hx : x.length = 32) (e : W.setCells g (k * 32) (byteCells x) = W') : SgSt w g n5 kc h (L.set k x) W' ∧ W.grownBy W' (some g) := by
  subst e
  have hcl := hashCells_length L h32
  have hbx : (byteCells x).length = 32 := by rw [byteCells, List.length_map, hx]
  have hbq := below_setCells (Below.refl g W) g (k * 32) (byteCells x) (Nat.le_refl _)
  refine ⟨⟨?_, S.sl.fars _ _ _ (by omega), S.k.fars _ _ _ (by omega), S.z.fars _ _ _ (by omega), below_setCells S.b _ _ _ (by omega), Nat.le_trans S.n hbq.size⟩, ⟨hbq.os, hbq.tape, hbq.output, hbq.size, fun j hj hne => cells_far _ _ _ _ _ (fun e => hne (by rw [e]))⟩⟩
  rw [hashCells_set L h32 k x hx (by omega)]
  exact S.row.put _ _ (by rw [hbx, hcl, hl]; omega)
theorem SgSt.there (S : SgSt w g n5 kc h L W) (h32 : ∀ x ∈ L, x.length = 32) (hl : L.length = h) {k : Nat} (hk : k < h) (x : List UInt8) (hx : x.length = 32) : W.there g (k * 32) (byteCells x).toArray.size := by
  refine S.row.there _ _ ?_
  rw [List.size_toArray, byteCells, List.length_map, hx, hashCells_length L h32, hl]
  omega
end
theorem SgSt.belowB {w W W' : World} {g n5 h B : Nat} {kc : List Value} {L : List (List UInt8)} (S : SgSt w g n5 kc h L W) (ho : w.heap.size + 1 < g) (hB : g + 1 < B) (hb : Below B W W') : SgSt w g n5 kc h L W' := ⟨S.row.below hb (by omega), S.sl.below hb hB, S.k.below hb (by omega), S.z.below hb (by omega), S.b.trans (hb.mono (by omega)), Nat.le_trans S.n hb.size⟩
theorem Bld.far {w W : World} {b g o : Nat} {l : List UInt8} {vs : List Value} (h : Bld w b l) (hg : g < b) (e : w.setCells g o vs = W) : Bld W b l := by
  subst e
  have key : ∀ p, Lib.BuilderAtF 78 5 b b p (Go.Lib.byteCells l) w → Lib.BuilderAtF 78 5 b b p (Go.Lib.byteCells l) (w.setCells g o vs) := by
    rintro p ⟨h1, v, h2, h3, h4⟩
    refine ⟨h1, v, (cells_far _ _ _ _ _ (by omega)).trans h2, ⟨h3.1, ?_⟩, h4⟩
    rcases h3.2 with hn | ⟨q, cap, cur, fz, hv, hbg, hgg, rest⟩
    · exact .inl hn
    · exact .inr ⟨q, cap, cur, fz, hv, hbg, (cells_far _ _ _ _ _ (by omega)).trans hgg, rest⟩
  exact h.elim (fun x => .inl (key _ x)) (fun x => .inr (key _ x))
theorem SgSt.next {w W W' : World} {g n5 h : Nat} {kc : List Value} {L : List (List UInt8)} (S : SgSt w g n5 kc h L W) (ho : w.heap.size + 1 < g) (v : Value) (e : W.setCell ⟨w.heap.size, 4, none⟩ v = W') : SgSt w g n5 (kc.set 4 v) h L W' := by
  have e2 : W.setCells w.heap.size 4 [v] = W' := e
  refine ⟨holds_far S.row (by omega) e2, holds_far S.sl (by omega) e2, ?_, holds_far S.z (by omega) e2, below_put S.b (Nat.le_refl _) e2, ?_⟩
  · rw [← e]
    exact S.k.set 4 v
  · have hbq := below_setCells (Below.refl w.heap.size W) w.heap.size 4 [v] (Nat.le_refl _)
    rw [← e2]
    exact Nat.le_trans S.n hbq.size
theorem flat_take {L : List (List UInt8)} {k : Nat} {x : List UInt8} (h : L[k]? = some x) : (L.take (k + 1)).flatten = (L.take k).flatten ++ x := by
  rw [List.take_add_one, h, List.flatten_append]
  simp
theorem SgSt.at_ {w W : World} {g n5 h k : Nat} {kc : List Value} {L : List (List UInt8)} {x : List UInt8} (S : SgSt w g n5 kc h L W) (h32 : ∀ x ∈ L, x.length = 32) (hx : L[k]? = some x) : W.rangeAt g (k * 32) (byteCells x) := Ends.range (n := L.length) ⟨rfl, h32, S.row⟩ hx
/-- A signature as a text. -/
def sigT (p : Ots.Par) (kd h : Nat) (id seed : ByteArray) (q : Nat) (msg : ByteArray) : ByteArray := txt (Lms.signL p kd h id.data.toList seed.data.toList q msg.data.toList)

noncomputable def sgPart (n : Nat) : Code := partSeq n ((Tryz.f21.body).getD .skip)
noncomputable def sgTail : Code := dropSeq 6 ((Tryz.f21.body).getD .skip)
theorem sg_body : Tryz.f21.body = some (.seq (sgPart 0) (.seq (sgPart 1) (.seq (sgPart 2) (.seq (sgPart 3) (.seq (sgPart 4) (.seq (sgPart 5) sgTail)))))) := by kernel_rfl

set_option pp.deepTerms true in
set_option pp.maxSteps 10000000 in
set_option maxHeartbeats 2000000 in
theorem lmsSign_good (p : Ots.Par) (kd h q : Nat) (hpar : Ots.par (kd : Int) = some p) (h1 : 1 ≤ h) (h5 : h ≤ 5) (id seed : ByteArray) (hi16 : id.size = 16) (hs32 : seed.size = 32) (hq : q < 2 ^ h) (hok : keyOk (kd : Int) (h : Int) id seed (q : Int) = true) (msg : ByteArray) (hm : msg.size ≤ 65536) (w : World) : Calls Tryz.prog 21 #[.agg #[.int .i64 (kd : Int), .int .i64 (h : Int), .string id, .string seed, .int .i64 (q : Int)], .string msg] w fun e w' => e = .returned (.tuple #[.string (sigT p kd h id seed q msg), .agg (keyC (kd : Int) (h : Int) id seed ((q + 1 : Nat) : Int)).toArray, .int .i64 0]) ∧ Below w.heap.size w w' := by
  obtain ⟨z2, z1⟩ := two_new w (.cells (keyC (kd : Int) (h : Int) id seed (q : Int)).toArray 39) (.cells zk.toArray 39)
  obtain ⟨W0, hW0⟩ : ∃ W0, (w.alloc (.cells (keyC (kd : Int) (h : Int) id seed (q : Int)).toArray 39)).alloc (.cells zk.toArray 39) = W0 := ⟨_, rfl⟩
  have hK0 := hid (show Holds W0 w.heap.size 39 (keyC (kd : Int) (h : Int) id seed (q : Int)) from by rw [← hW0]; exact (Holds.new w 39 (keyC (kd : Int) (h : Int) id seed (q : Int)).toArray).alloc _)
  have hZ0 := hid (show Holds W0 (w.heap.size + 1) 39 zk from by rw [← hW0, ← z1]; exact Holds.new _ 39 zk.toArray)
  have hB0 := hid (show Below w.heap.size w W0 from by rw [← hW0]; exact ((Below.refl _ _).alloc (Nat.le_refl _) _).alloc (by simp) _)
  have hW0' := hid hW0
  have hz := hid z1
  have hsk := hid sizeKey
  have hmy := hid (fun W => lmsMay_any (kd : Int) (h : Int) id seed (q : Int) W)
  rw [hok] at hmy
  clear hW0 hok z1 z2
  obtain ⟨nd, hnd⟩ : ∃ nd, (fun r => Lms.at_ id.data.toList (Lms.keys p id.data.toList seed.data.toList h) h r) = nd := ⟨_, rfl⟩
  have hnl : ∀ r, (nd r).length = 32 := fun r => by rw [← hnd]; exact Lms.at_len _ _ _ _
  have hC := hid (fun r => hash_cells (nd r) (hnl r))
  have hnl' := hid hnl
  have hnd' := hid hnd
  clear hnl hnd
  have hmi : ¬ (65536 : Int) < (msg.size : Int) := by omega
  have hp5 : 2 ^ h ≤ 32 := by
    have := Nat.pow_le_pow_right (show 0 < 2 by decide) h5
    omega
  obtain ⟨R, hR⟩ : ∃ R, 2 ^ h + q = R := ⟨_, rfl⟩
  have hpw : 2 ^ (h + 1) = 2 * 2 ^ h := by rw [Nat.pow_succ, Nat.mul_comm]
  have hR1 : 2 ^ h ≤ R := by omega
  have hR2 : R < 2 ^ (h + 1) := by omega
  have hRw := IntWalk.i64_in (R : Int) (by omega)
  have hsd := hid (fun i (hi : i < h) => show sideN R i ∈ Lms.made h (2 ^ h) from by
    have e := Lms.sides_in h q i hq hi
    rw [hR] at e
    exact Lms.made_all h _ h1 h5 e.1 e.2)
  have hhw := IntWalk.i64_in (h : Int) (by omega)
  have hqw := IntWalk.i64_in ((q : Int) + 1) (by omega)
  obtain ⟨Z, hZ⟩ : ∃ Z : Int, ((2 ^ h : Nat) : Int) = Z := ⟨_, rfl⟩
  have hZw : IntKind.i64.wrap (2 ^ h) = Z := (shl_wrap h h5).trans hZ
  have hZe : ((q : Int) == Z) = false := by rw [beq_eq_false_iff_ne]; omega
  have hZR : Z + (q : Int) = (R : Int) := by omega
  obtain ⟨once, honce⟩ : ∃ s, txt (Ots.sign p kd (Ots.head id.data.toList q) seed.data.toList msg.data.toList) = s := ⟨_, rfl⟩
  have hsg := hid (fun W => show Calls Tryz.prog 36 #[.int .i64 (kd : Int), .string id, .int .i64 (q : Int), .string seed, .string msg] W fun e w' => e = .returned (.tuple #[.string once, .int .i64 0]) ∧ Below W.heap.size W w' from by
    have hg : otsGood (kd : Int) (q : Int) id seed = some p := by
      unfold otsGood
      rw [hpar]
      exact if_pos ⟨by unfold Ots.may; rw [decide_eq_true ⟨hi16, by omega, by omega⟩], hs32⟩
    rw [← honce]
    exact Sign_good (kd : Int) (q : Int) id seed msg p hg hm W)
  have hty := hid (fun W => TypeOf_any h (by omega) W)
  have hut := hid (fun W => U32_any (Lms.typ h) W)
  have huq := hid (fun W => U32_any q W)
  have hon := hid honce
  have hR1' := hid hR1
  have hR2' := hid hR2
  have hZZ := hid hZ
  have hRR := hid hR
  clear honce hR1 hR2 hZ hR hpw hp5
  refine callsIn_wide.1 (callsIn_of_wp_marks (n := 10) Tryz.func21 sg_body trivial ?_ rfl)
  have hfr : (#[.agg #[.int .i64 (kd : Int), .int .i64 (h : Int), .string id, .string seed, .int .i64 (q : Int)], .string msg] ++ Array.replicate (Tryz.f21.ntmps - (#[.agg #[.int .i64 (kd : Int), .int .i64 (h : Int), .string id, .string seed, .int .i64 (q : Int)], .string msg] : Array Value).size) undef : Array Value) = #[.agg #[.int .i64 (kd : Int), .int .i64 (h : Int), .string id, .string seed, .int .i64 (q : Int)], .string msg, undef, undef, undef, undef, undef, undef, undef, undef, undef, undef, undef, undef, undef, undef, undef, undef, undef, undef, undef, undef, undef, undef, undef, undef, undef, undef, undef, undef, undef, undef, undef, undef, undef, undef, undef, undef, undef, undef, undef, undef, undef, undef, undef, undef, undef, undef, undef, undef, undef, undef, undef, undef, undef, undef, undef, undef, undef, undef, undef, undef, undef, undef, undef, undef, undef, undef, undef, undef, undef, undef, undef, undef, undef, undef, undef, undef, undef, undef, undef, undef, undef, undef, undef, undef, undef, undef, undef, undef, undef, undef, undef, undef, undef, undef, undef, undef] := by kernel_rfl
  rw [hfr]
  refine wpIn_wide.2 ?_
  refine wp_seq ?_
  conv => arg 2; whnf
  go_wp2_with (first
    | ((with_reducible refine at_slot (some 2) ?_); refine wpList_run rfl (.pointer (some ⟨w.heap.size, 0, none⟩)) (w.alloc (.cells (keyC (kd : Int) (h : Int) id seed (q : Int)).toArray 39)) (by kernel_rfl) ?_)
    | ((with_reducible refine at_slot (some 5) ?_); refine wpList_run rfl (.pointer (some ⟨(w.alloc (.cells (keyC (kd : Int) (h : Int) id seed (q : Int)).toArray 39)).heap.size, 0, none⟩)) ((w.alloc (.cells (keyC (kd : Int) (h : Int) id seed (q : Int)).toArray 39)).alloc (.cells zk.toArray 39)) (by kernel_rfl) ?_; rw [hW0'.out, hz.out])
    | fail)
  conv => arg 2; whnf
  go_wp2_with (first
    | ((with_reducible refine at_slot (some 17) ?_); refine wpList_load_mid rfl 39 (.tmp 2) rfl w.heap.size 0 rfl (keyC (kd : Int) (h : Int) id seed (q : Int)) _ (by exact h_all hK0.out) Tryz.underlying39 rfl (by exact hsk.out) ?_)
    | fail)
  refine (hmy.out _).mono ?_
  rintro e W1 ⟨rfl, hb⟩
  have hB1 := zup hb hB0
  have hK1 := zon hb hK0
  have hZ1 := zon hb hZ0
  clear hb hK0 hB0 hZ0
  go_wp2_with fail
  obtain ⟨kc, hkc⟩ : ∃ kc, keyC (kd : Int) (h : Int) id seed (q : Int) = kc := ⟨_, rfl⟩
  have g0 : kc[0]? = some (.int .i64 (kd : Int)) := by rw [← hkc]; rfl
  have g1 : kc[1]? = some (.int .i64 (h : Int)) := by rw [← hkc]; rfl
  have g2 : kc[2]? = some (.string id) := by rw [← hkc]; rfl
  have g3 : kc[3]? = some (.string seed) := by rw [← hkc]; rfl
  have g4 : kc[4]? = some (.int .i64 (q : Int)) := by rw [← hkc]; rfl
  have hkl : kc.length = 5 := by rw [← hkc]; rfl
  have hk1c : kc.toArray.all (·.oneCell') = true := by rw [← hkc]; exact keyC_one _ _ _ _ _
  rw [hkc] at hK1 ⊢
  have gg := hid (And.intro g0 (And.intro g1 (And.intro g2 (And.intro g3 g4))))
  have hkc' := hid hkc
  have hkz := hid (show (Tryz.prog.info? 39).map (·.size) = some kc.length from by rw [hkl]; exact sizeKey)
  clear g0 g1 g2 g3 g4 hkc
  have hb : Below W1.heap.size W1 W1.drew := (Below.refl _ _).drew
  have hK2 := zon hb hK1
  have hZ2 := zon hb hZ1
  have hB2 := zup hb hB1
  clear hb hK1 hZ1 hB1
  conv => arg 2; whnf
  go_wp2_with fail
  refine wp_region_noPanic ?_
  refine wp_region_held_drew (S := fun V => Holds V w.heap.size 39 kc) (by kernel_rfl) (by exact hK2.out) (fun zH => ?_)
  generalize W1.drew = W2 at *
  refine tkx 0 (.pointer (some ⟨w.heap.size, 4, none⟩)) zH ?_; simp only [lp]
  refine tkx 1 (.int .i64 (q : Int)) zH ?_ (hy := .inl ⟨by kernel_rfl, fun V hS => by have c4 := hS.c 4 _ gg.out.2.2.2.2; go_simp⟩); simp only [lp]
  refine tkx 2 (.pointer (some ⟨w.heap.size, 1, none⟩)) zH ?_; simp only [lp]
  refine tkx 3 (.int .i64 (h : Int)) zH ?_ (hy := .inl ⟨by kernel_rfl, fun V hS => by have c1 := hS.c 1 _ gg.out.2.1; go_simp⟩); simp only [lp]
  refine tkx 4 (.int .i64 Z) zH ?_; simp only [lp]
  refine tkx 5 (.bool false) zH ?_; simp only [lp]
  refine wpAnyH_done (by kernel_rfl) ?_ _
  refine NoPanic.normal ?_
  go_wp2_with fail
  have c0 := hK2.out.c 0 _ gg.out.1
  have c2 := hK2.out.c 2 _ gg.out.2.2.1
  have c3 := hK2.out.c 3 _ gg.out.2.2.2.1
  have c4 := hK2.out.c 4 _ gg.out.2.2.2.2
  conv => arg 2; whnf
  go_wp2_with fail
  refine (hsg.out _).mono ?_
  rintro e W3 ⟨rfl, hb⟩
  have hK3 := zon hb hK2
  have hZ3 := zon hb hZ2
  have hB3 := zup hb hB2
  clear hb hK2 hZ2 hB2 c0 c2 c3 c4
  go_wp2_with fail
  conv => arg 2; whnf
  go_wp2_with fail
  conv => arg 2; whnf
  have c1 := hK3.out.c 1 _ gg.out.2.1
  go_wp2_with (first
    | ((with_reducible refine at_slot (some 51) ?_); refine wpList_make_hashes rfl (.tmp 50) (.tmp 50) rfl (h : Int) h rfl rfl rfl (by omega) ?_)
    | fail)
  obtain ⟨zz2, zz1⟩ := two_new W3 (.cells (hashCells (List.replicate h h0)).toArray 60) (.cells #[.slice (some ⟨W3.heap.size, 0, none⟩) h h] 72)
  obtain ⟨W4, hW4⟩ : ∃ W4, (W3.alloc (.cells (hashCells (List.replicate h h0)).toArray 60)).alloc (.cells #[.slice (some ⟨W3.heap.size, 0, none⟩) h h] 72) = W4 := ⟨_, rfl⟩
  have hb : Below W3.heap.size W3 W4 := by rw [← hW4]; exact ((Below.refl _ _).alloc (Nat.le_refl _) _).alloc (by simp) _
  have hs4 := hid (show W4.heap.size = W3.heap.size + 2 from by rw [← hW4]; exact zz2)
  have hzero : rowL nd (sideN R) h (seenF (sideN R) []) = List.replicate h h0 := by
    rw [← rowL_none (nd := nd) (s := sideN R)]
    exact rowL_congr fun i _ => by simp [seenF]
  have hS4 := hid (show SgSt w W3.heap.size W4.heap.size kc h (rowL nd (sideN R) h (seenF (sideN R) [])) W4 from by
    refine ⟨?_, ?_, hK3.out.below hb hK3.out.lt, hZ3.out.below hb hZ3.out.lt, below_up hb hB3.out, Nat.le_refl _⟩
    · rw [hzero, ← hW4]
      exact (Holds.new W3 60 (hashCells (List.replicate h h0)).toArray).alloc _
    · rw [← hW4, ← zz1]
      exact Holds.new _ _ _)
  rw [hW4]
  clear hb hW4 zz2 zz1 hzero c1
  conv => arg 2; whnf
  go_wp2_with (first
    | ((with_reducible refine at_slot (some 52) ?_); refine wpList_load_mid rfl 39 (.tmp 2) rfl w.heap.size 0 rfl kc _ (by exact h_all hS4.out.k) Tryz.underlying39 rfl (by exact hkz.out) ?_)
    | fail)
  rw [← hkc'.out]
  refine (nodes_any (kd : Int) (h : Int) id seed (q : Int) W4).mono ?_
  rw [hkc'.out]
  rintro e W5 ⟨rfl, hW5⟩
  have hb : Below W4.heap.size W4 W5 := by rw [hW5]; exact (Below.refl _ _).alloc (Nat.le_refl _) _
  have hs5 := hid (show W5.heap.size = W4.heap.size + 1 from by rw [hW5]; simp)
  have hk5 : Holds W5 W4.heap.size 39 kc := by rw [hW5]; exact Holds.new W4 39 kc.toArray
  have hS5 := hid (show SgSt w W3.heap.size W5.heap.size kc h (rowL nd (sideN R) h (seenF (sideN R) [])) W5 from (fun S => ⟨S.row, S.sl, S.k, S.z, S.b, Nat.le_refl _⟩ : SgSt w W3.heap.size W4.heap.size kc h (rowL nd (sideN R) h (seenF (sideN R) [])) W5 → _) (hS4.out.below hb))
  have ho1 : w.heap.size + 1 < W3.heap.size := hZ3.out.lt
  have ho2 : W3.heap.size + 1 < W5.heap.size := by have := hs4.out; have := hs5.out; omega
  have hall := hid (show SeqAll Fence.wide 9 Tryz.prog 51 #[.pointer (some ⟨W4.heap.size, 0, none⟩)] (fun r : Nat => #[.int .i64 (r : Int), .agg (byteCells (nd r)).toArray]) (fun _ => False) (KeepX (fun k => k = W3.heap.size)) (fun xs => xs = Lms.made h (2 ^ h)) (Lms.made h (2 ^ h)).length W5 from by
    rw [← hnd'.out]
    exact nodes_all 8 (fun k => k = W3.heap.size) W4.heap.size (by have := hs4.out; omega) p (kd : Int) hpar h h1 h5 id seed hi16 hs32 (q : Int) W5 (fun k hk => by omega) (by rw [hkc'.out]; exact hk5))
  have hpar' := hid hpar
  clear hb hW5 hk5 hpar
  go_wp2_with fail
  refine (wpIn_wide (n := 10)).1 ?_
  refine wpIn_range_all rfl (by omega) (gf := 51) (lb := #[.pointer (some ⟨W4.heap.size, 0, none⟩)]) rfl trivial (enters_of Tryz.func51 (by kernel_rfl) rfl)
    hall.out (Below.refl _ _) (fun _ => rfl) (fun _ h => h.elim) KeepX.trans (fun W l o o' _ hl ho => KeepX.put W l o o' hl ho)
    (fun pre W => SgSt w W3.heap.size W5.heap.size kc h (rowL nd (sideN R) h (seenF (sideN R) pre)) W)
    (fun s A B row hS hg hr => hS.grown ho1 ho2 hg (fun r e => (hr r e).elim (fun h => h) (fun h => h.elim)))
    hS5.out
    (fun x a' W => ∃ c10 c11, a' = { tmps := #[.agg #[.int .i64 (kd : Int), .int .i64 (h : Int), .string id, .string seed, .int .i64 (q : Int)], .string msg, .pointer (some ⟨w.heap.size, 0, none⟩), undef, .string { data := #[] }, .pointer (some ⟨w.heap.size + 1, 0, none⟩), .int .i64 0, .string once, .int .i64 0, .pointer (some ⟨W3.heap.size + 1, 0, none⟩), .pointer (some ⟨c10, 0, none⟩), .pointer (some ⟨c11, 0, none⟩), undef, undef, undef, undef, undef, .agg kc.toArray, .bool true, .bool false, .bool false, .string msg, .int .i64 (msg.size : Int), .bool (decide ((65536 : Int) < (msg.size : Int))), .bool (decide ((65536 : Int) < (msg.size : Int))), undef, .pointer (some ⟨w.heap.size, 4, none⟩), .int .i64 (q : Int), .pointer (some ⟨w.heap.size, 1, none⟩), .int .i64 (h : Int), .int .i64 Z, .bool false, undef, .tuple #[.string once, .int .i64 0], .pointer (some ⟨w.heap.size, 0, none⟩), .int .i64 (kd : Int), .pointer (some ⟨w.heap.size, 2, none⟩), .string id, .pointer (some ⟨w.heap.size, 4, none⟩), .int .i64 (q : Int), .pointer (some ⟨w.heap.size, 3, none⟩), .string seed, .string msg, .tuple #[.string once, .int .i64 0], .string once, .int .i64 0, .int .i64 0, .bool false, undef, .pointer (some ⟨w.heap.size, 1, none⟩), .int .i64 (h : Int), .slice (some ⟨W3.heap.size, 0, none⟩) h h, .agg kc.toArray, .func (.func 51) #[] #[.pointer (some ⟨W4.heap.size, 0, none⟩)], .int .i64 (x : Int), .agg (byteCells (nd x)).toArray, undef, undef, undef, undef, undef, undef, undef, undef, undef, undef, undef, undef, undef, undef, undef, undef, undef, undef, undef, undef, undef, undef, undef, undef, undef, undef, undef, undef, undef, undef, undef, undef, undef, undef, undef, undef, undef, undef, undef, undef, undef, undef], defers := [] } ∧ W5.heap.size ≤ c10 ∧ W5.heap.size ≤ c11 ∧ Holds W c10 3 [.int .i64 (x : Int)] ∧ Holds W c11 60 (byteCells (nd x)))
    (fun x a' A B row ⟨c10, c11, q1, q2, q3, q4, q5⟩ hg hr => ⟨c10, c11, q1, q2, q3, holds_kept q4 hg (fun r e => (hr r e).2), holds_kept q5 hg (fun r e => (hr r e).2)⟩) ?assign ?body ?done
  case assign =>
    rintro l pre x W K hI hK
    have hCx := hid (hC.out x)
    have hI' := hid hI
    clear hI
    gi_wp2_with (first
      | ((with_reducible refine at_slotIn (some 11) ?_); refine wpListIn_run rfl (fun c e => by cases e) (by kernel_rfl) (.pointer (some ⟨(W.alloc (.cells #[.int .i64 (x : Int)] 3)).heap.size, 0, none⟩)) ((W.alloc (.cells #[.int .i64 (x : Int)] 3)).alloc (.cells z32 60)) (by kernel_rfl) ?_)
      | ((with_reducible refine at_slotIn none ?_); refine wpListIn_store_mid rfl 60 (.tmp 11) (.tmp 55) rfl (W.alloc (.cells #[.int .i64 (x : Int)] 3)).heap.size 0 (byteCells (nd x)).toArray rfl rfl (by exact hCx.out.there (W.alloc (.cells #[.int .i64 (x : Int)] 3))) (by exact hCx.out.size) (by exact hCx.out.one) ?_)
      | fail)
    have eA : (W.alloc (.cells #[.int .i64 (x : Int)] 3)).heap.size = W.heap.size + 1 := by simp
    obtain ⟨W', hW'⟩ : ∃ W', ((W.alloc (.cells #[.int .i64 (x : Int)] 3)).alloc (.cells z32 60)).setCells (W.heap.size + 1) 0 (byteCells (nd x)) = W' := ⟨_, rfl⟩
    obtain ⟨hN, hb⟩ := hCx.out.new (w := (W.alloc (.cells #[.int .i64 (x : Int)] 3))) (W := W') (by rw [eA]; exact hW')
    rw [eA] at hN
    rw [hW']
    have hb0 : Below W.heap.size W (W.alloc (.cells #[.int .i64 (x : Int)] 3)) := (Below.refl _ _).alloc (Nat.le_refl _) _
    have hb1 := below_up hb hb0
    have hX := (Holds.new W 3 #[.int .i64 (x : Int)])
    have hn := hI'.out.n
    refine hK _ _ ⟨hb1.size, fun i o _ hi _ => (hb1.block i (Array.getElem?_eq_some_iff.1 hi).1).trans hi⟩ (KeepX.below hb1) (hI'.out.below hb1) ⟨W.heap.size, W.heap.size + 1, rfl, hn, by omega, hX.below hb hX.lt, hN⟩
  case body =>
    rintro l pre x a' W hl ⟨r0, hr0⟩ hI ⟨c10, c11, rfl, hc10, hc11, hx, hy⟩ hlt
    have hbd := hid (show Below W.heap.size W W.drew from (Below.refl _ _).drew)
    have hs_d := hid (show W.drew.heap.size = W.heap.size from rfl)
    have Id0 := hid (hI.below hbd.out)
    have Id := Id0
    have xd := hid (hx.below hbd.out hx.lt)
    have yd := hid (hy.below hbd.out hy.lt)
    have ld := hid (blk_on hr0 hbd.out)
    have hWn := hid hI.n
    have hCx := hid (hC.out x)
    have hl10 := hx.lt
    have hl11 := hy.lt
    clear hI hx hy hr0
    gi_wp2_with fail
    refine wpIn_region_round (S := fun V => Holds V w.heap.size 39 kc) mixedP (by kernel_rfl) (fun ⟨_, _, h⟩ => nomatch (show Exit.outgrown = Exit.normal from h.1)) (by exact Id0.out.k) (fun zH => ?_)
    generalize W.drew = Wd at *
    refine tkx 0 (.pointer (some ⟨w.heap.size, 1, none⟩)) zH ?_; simp only [lp]
    refine tkx 1 (.int .i64 (h : Int)) zH ?_ (hy := .inl ⟨by kernel_rfl, fun V hS => by have c1 := hS.c 1 _ gg.out.2.1; go_simp⟩); simp only [lp]
    refine tkx 2 (.int .i64 Z) zH ?_; simp only [lp]
    refine tkx 3 (.pointer (some ⟨w.heap.size, 4, none⟩)) zH ?_; simp only [lp]
    refine tkx 4 (.int .i64 (q : Int)) zH ?_ (hy := .inl ⟨by kernel_rfl, fun V hS => by have c4 := hS.c 4 _ gg.out.2.2.2.2; go_simp⟩); simp only [lp]
    refine tkx 5 (.int .i64 (R : Int)) zH ?_; simp only [lp]
    refine wpAnyH_ready (rs := [6]) (by kernel_rfl) (by simp) (AllReadyH.cons rfl (fun K hK => ?_) AllReadyH.nil)
    have hK' := hid hK
    clear hK
    rw [if_pos (by kernel_rfl)]
    simp only [ly1, ly2, ly3]
    go_simp
    refine (beside_any (R : Int) Wd).mono ?_
    rintro e W7 ⟨rfl, hW7⟩
    have hb : Below Wd.heap.size Wd W7 := by rw [hW7]; exact (Below.refl _ _).alloc (Nat.le_refl _) _
    have hs7 := hid (show W7.heap.size = Wd.heap.size + 1 from by rw [hW7]; simp)
    have hb7 : Holds W7 Wd.heap.size 3 [.int .i64 (R : Int)] := by rw [hW7]; exact Holds.new _ _ _
    have I7 := hid (Id.out.below hb)
    have x7 := hid (xd.out.below hb xd.out.lt)
    have y7 := hid (yd.out.below hb yd.out.lt)
    have l7 := hid (blk_on ld.out hb)
    have kb := hid (show KeepB W.heap.size W3.heap.size W W7 from ⟨by have := hb.size; have := hs_d.out; omega, fun k hk _ => (hb.block k (by have := hs_d.out; omega)).trans (hbd.out.block k hk)⟩)
    have hsq := hid (beside_all 6 (fun k => k = W3.heap.size) Wd.heap.size (by have := Id.out.n; have := hs5.out; have := hs4.out; omega) R h hR1'.out hR2'.out h5 W7 hb7)

    clear hb hW7 hb7
    refine hK'.out _ _ (by exact I7.out.k) (fun zH => ?_)
    clear hK' K
    refine wpAnyH_done (by kernel_rfl) ?_ _
    gi_wp2_with fail
    refine wpIn_range_allN rfl l7.out (by omega) (gf := 66) (lb := #[.pointer (some ⟨Wd.heap.size, 0, none⟩)]) rfl trivial (enters_of Tryz.func66 (by kernel_rfl) rfl)
      (SeqAll.inRound l hsq.out) (Below.refl _ _) (fun _ => rfl) (fun r h => by rw [h]; have := hs7.out; omega) KeepX.trans (fun W l o o' _ hl ho => KeepX.put W l o o' hl ho)
      (fun pre2 V => SgSt w W3.heap.size W5.heap.size kc h (rowL nd (sideN R) h (moreF (sideN R) pre x pre2)) V ∧ Holds V c10 3 [.int .i64 (x : Int)] ∧ Holds V c11 60 (byteCells (nd x)) ∧ KeepB W.heap.size W3.heap.size W V ∧ W7.heap.size ≤ V.heap.size)
      (fun s A B row ⟨i1, i2, i3, i4, i5⟩ hg hr => by
        have hWn' := hWn.out
        have hr' : ∀ r, row = some r → W.heap.size ≤ r := fun r e => by
          have hn7 := hs7.out
          have hnd_ := hs_d.out
          rcases hr r e with h | h
          · omega
          · rw [h]; omega
        exact ⟨i1.grown ho1 ho2 hg (fun r e => by have := hr' r e; omega), i2.grown hg (fun e => by have := hr' _ e.symm; omega), i3.grown hg (fun e => by have := hr' _ e.symm; omega),
          ⟨Nat.le_trans i4.1 hg.size, fun k hk hne => (hg.block k (Nat.lt_of_lt_of_le hk i4.1) (fun e => by have := hr' _ e.symm; omega)).trans (i4.2 k hk hne)⟩, Nat.le_trans i5 hg.size⟩)
      ⟨by rw [rowL_congr fun i _ => moreF_nil (h := h) (sideN R) pre x i]; exact I7.out, x7.out, y7.out, kb.out, Nat.le_refl _⟩
      (fun (i : Fin h) a' _ => a' = { tmps := #[.agg #[.int .i64 (kd : Int), .int .i64 (h : Int), .string id, .string seed, .int .i64 (q : Int)], .string msg, .pointer (some ⟨w.heap.size, 0, none⟩), undef, .string { data := #[] }, .pointer (some ⟨w.heap.size + 1, 0, none⟩), .int .i64 0, .string once, .int .i64 0, .pointer (some ⟨W3.heap.size + 1, 0, none⟩), .pointer (some ⟨c10, 0, none⟩), .pointer (some ⟨c11, 0, none⟩), .int .i64 ((i : Nat) : Int), .int .i64 ((sideN R i : Nat) : Int), undef, undef, undef, .agg kc.toArray, .bool true, .bool false, .bool false, .string msg, .int .i64 (msg.size : Int), .bool (decide ((65536 : Int) < (msg.size : Int))), .bool (decide ((65536 : Int) < (msg.size : Int))), undef, .pointer (some ⟨w.heap.size, 4, none⟩), .int .i64 (q : Int), .pointer (some ⟨w.heap.size, 1, none⟩), .int .i64 (h : Int), .int .i64 Z, .bool false, undef, .tuple #[.string once, .int .i64 0], .pointer (some ⟨w.heap.size, 0, none⟩), .int .i64 (kd : Int), .pointer (some ⟨w.heap.size, 2, none⟩), .string id, .pointer (some ⟨w.heap.size, 4, none⟩), .int .i64 (q : Int), .pointer (some ⟨w.heap.size, 3, none⟩), .string seed, .string msg, .tuple #[.string once, .int .i64 0], .string once, .int .i64 0, .int .i64 0, .bool false, undef, .pointer (some ⟨w.heap.size, 1, none⟩), .int .i64 (h : Int), .slice (some ⟨W3.heap.size, 0, none⟩) h h, .agg kc.toArray, .func (.func 51) #[] #[.pointer (some ⟨W4.heap.size, 0, none⟩)], .int .i64 (x : Int), .agg (byteCells (nd x)).toArray, .pointer (some ⟨w.heap.size, 1, none⟩), .int .i64 (h : Int), .int .i64 Z, .pointer (some ⟨w.heap.size, 4, none⟩), .int .i64 (q : Int), .int .i64 (R : Int), .func (.func 66) #[] #[.pointer (some ⟨Wd.heap.size, 0, none⟩)], .int .i64 ((i : Nat) : Int), .int .i64 ((sideN R i : Nat) : Int), undef, undef, undef, undef, undef, undef, undef, undef, undef, undef, undef, undef, undef, undef, undef, undef, undef, undef, undef, undef, undef, undef, undef, undef, undef, undef, undef, undef, undef, undef, undef, undef, undef], defers := [] })
      (fun _ _ _ _ _ hs _ _ => hs) ?assign2 ?body2 ?done2
    case assign2 =>
      rintro l2 pre2 i V K hI2 hK
      gi_wp2_with fail
      exact hK _ _ (KeepsFrom.refl _ _) (KeepX.refl _ _) hI2 rfl
    case body2 =>
      rintro l2 pre2 i a' V hl2 ⟨r2, hr2⟩ ⟨i1, i2, i3, i4, i5⟩ rfl hlt2
      have j1 := hid i1
      have j2 := hid i2
      have j3 := hid i3
      have j4 := hid i4
      have j5 := hid i5
      have cx := i2.c 0 _ rfl
      have csl := i1.sl.c 0 _ rfl
      clear i1 i2 i3 i4 i5
      have hih : ((i : Nat) : Int) < (h : Int) := by have := i.2; omega
      obtain ⟨si, hsi⟩ : ∃ si, sideN R i = si := ⟨_, rfl⟩
      rw [hsi]
      obtain ⟨iv, hiv⟩ : ∃ iv, (i : Nat) = iv := ⟨_, rfl⟩
      have hivh : iv < h := by rw [← hiv]; exact i.2
      have hi' : i = ⟨iv, hivh⟩ := Fin.ext hiv
      rw [hiv] at hih ⊢
      subst hi'
      have hsi' : sideN R iv = si := hsi
      clear hsi hiv
      have hr32 := hid (rowL_32 (nd := nd) (s := sideN R) (h := h) (f := moreF (sideN R) pre x pre2) hnl'.out)
      by_cases he : si = x
      · have e1 : ((si : Int) == (x : Int)) = true := by rw [he]; simp
        gi_wp2_with (first
          | ((with_reducible refine at_slotIn (some 70) ?_); refine wpListIn_load_mid rfl 60 (.tmp 11) rfl c11 0 rfl (byteCells (nd x)) _ (by exact h_all j3.out) Tryz.underlying60 rfl (by exact hCx.out.size') ?_)
          | ((with_reducible refine at_slotIn none ?_); refine wpListIn_store_mid rfl 60 (.tmp 71) (.tmp 70) rfl W3.heap.size (iv * 32) (byteCells (nd x)).toArray rfl rfl (by exact j1.out.there hr32.out rowL_len hivh (nd x) (hnl'.out x)) (by exact hCx.out.size) (by exact hCx.out.one) ?_)
          | fail)
        obtain ⟨V', hV'⟩ : ∃ V', V.setCells W3.heap.size (iv * 32) (byteCells (nd x)) = V' := ⟨_, rfl⟩
        obtain ⟨hS, hg⟩ := j1.out.set ho1 hr32.out rowL_len hivh (nd x) (hnl'.out x) hV'
        rw [hV']
        have hrow : (rowL nd (sideN R) h (moreF (sideN R) pre x pre2)).set iv (nd x) = rowL nd (sideN R) h (moreF (sideN R) pre x (pre2 ++ [⟨iv, hivh⟩])) := by
          have e2 : sideN R iv = x := hsi'.trans he
          rw [← e2]
          exact rowL_set fun i hi => by rw [e2]; exact moreF_hit (k := ⟨iv, hivh⟩) e2 i
        rw [hrow] at hS
        have a5 := j5.out
        have a7 := hs7.out
        have ad := hs_d.out
        have aw := hWn.out
        exact ⟨KeepsFrom.of_grownBy hg (fun j e => by have := Option.some.inj e; omega), KeepX.grown rfl hg, hS, j2.out.grown hg (fun e => by have := Option.some.inj e; omega), j3.out.grown hg (fun e => by have := Option.some.inj e; omega),
          ⟨Nat.le_trans j4.out.1 hg.size, fun k hk hne => (hg.block k (Nat.lt_of_lt_of_le hk j4.out.1) (fun e => hne (Option.some.inj e))).trans (j4.out.2 k hk hne)⟩, Nat.le_trans a5 hg.size⟩
      · have e1 : ((si : Int) == (x : Int)) = false := by rw [beq_eq_false_iff_ne]; omega
        gi_wp2_with fail
        have hrow : rowL nd (sideN R) h (moreF (sideN R) pre x (pre2 ++ [⟨iv, hivh⟩])) = rowL nd (sideN R) h (moreF (sideN R) pre x pre2) := rowL_congr fun i hi => moreF_miss (k := ⟨iv, hivh⟩) (by show sideN R iv ≠ x; rw [hsi']; exact he) i
        exact ⟨KeepsFrom.refl _ _, KeepX.refl _ _, by rw [hrow]; exact j1.out, j2.out, j3.out, j4.out, j5.out⟩
    case done2 =>
      rintro xs V rfl ⟨i1, i2, i3, i4, i5⟩
      have hrow : rowL nd (sideN R) h (moreF (sideN R) pre x (List.finRange h)) = rowL nd (sideN R) h (seenF (sideN R) (pre ++ [x])) := rowL_congr fun i hi => moreF_all i hi
      rw [hrow] at i1
      have j1 := hid i1
      have j4 := hid i4
      clear i1 i2 i3 i4 i5
      gi_wp2_with fail
      exact ⟨⟨j4.out.1, fun k o hB hk _ => (j4.out.2 k (Array.getElem?_eq_some_iff.1 hk).1 (by omega)).trans hk⟩, ⟨j4.out.1, fun k o hk _ hx => (j4.out.2 k (Array.getElem?_eq_some_iff.1 hk).1 hx).trans hk⟩, j1.out⟩
  case done =>
    rintro D xs W hD rfl hI hK
    have hrowall := rowL_all (nd := nd) (s := sideN R) (h := h) (f := seenF (sideN R) (Lms.made h (2 ^ h))) (fun i hi => decide_eq_true (hsd.out i hi))
    rw [hrowall] at hI
    obtain ⟨Lp, hLp⟩ : ∃ Lp, (List.range h).map (fun i => nd (sideN R i)) = Lp := ⟨_, rfl⟩
    have hLl : Lp.length = h := by rw [← hLp, List.length_map, List.length_range]
    have hL32 := hid (show ∀ x ∈ Lp, x.length = 32 from by
      rw [← hLp]
      intro x hx
      obtain ⟨i, -, rfl⟩ := List.mem_map.1 hx
      exact hnl'.out _)
    rw [hLp] at hI
    have hLl' := hid hLl
    have hLp' := hid hLp
    clear hrowall hLl hLp
    obtain ⟨tq, htq⟩ : ∃ t, be 4 q = t := ⟨_, rfl⟩
    obtain ⟨tt, htt⟩ : ∃ t, be 4 (Lms.typ h) = t := ⟨_, rfl⟩
    obtain ⟨th, hth⟩ : ∃ t, Lms.typ h = t := ⟨_, rfl⟩
    have zq : tq.size = 4 := by rw [← htq, be_size]
    have zt : tt.size = 4 := by rw [← htt, be_size]
    have zo : once.size = 36 + 32 * p.p := by rw [← hon.out, txt_size]; exact Ots.sign_len Ots.sha32 _ _ _ _ _
    have zp : p.p ≤ 67 := by
      rcases Ots.par_kind hpar'.out with ⟨-, e⟩ | ⟨-, e⟩ <;> rw [e] <;> decide
    rw [htq] at huq
    rw [htt, hth] at hut
    rw [hth] at hty
    have htq' := hid htq
    have htt' := hid htt
    clear htq htt hth
    have hS := hid hI
    have hDk := hid hK
    have hDlt := (Array.getElem?_eq_some_iff.1 hK).1
    have hg1 : W3.heap.size + 1 < W.heap.size := hI.sl.lt
    clear hI hK
    have hb0 : Below W.heap.size W (W.alloc (.cells #[.pointer none, .slice none 0 0] 78)) := (Below.refl _ _).alloc (Nat.le_refl _) _
    have c4 : (W.alloc (.cells #[.pointer none, .slice none 0 0] 78)).cell? ⟨w.heap.size, 4, none⟩ = some (.int .i64 (q : Int)) := (hS.out.below hb0).k.c 4 _ gg.out.2.2.2.2
    go_wp2_with fail
    obtain ⟨V0, hV0⟩ : ∃ V0, (W.alloc (.cells #[.pointer none, .slice none 0 0] 78)) = V0 := ⟨_, rfl⟩
    have hS0 := hid (show SgSt w W3.heap.size W5.heap.size kc h Lp V0 from by rw [← hV0]; exact hS.out.below hb0)
    have hD0 := hid (show V0.heap[D]? = some (.deferred (some [])) from by rw [← hV0]; exact blk_on hDk.out hb0)
    have hL0 := hid (show Bld V0 W.heap.size [] from by rw [← hV0]; exact Bld.fresh W)
    rw [hV0]
    clear hb0 c4 hV0 hS hDk
    refine (huq.out _).mono ?_
    rintro e V1 ⟨rfl, hb⟩
    have hS1 := hid (hS0.out.below hb)
    have hD1 := hid (blk_on hD0.out hb)
    have hL1 := hid (hL0.out.below hb)
    clear hb hS0 hD0 hL0
    go_wp2_with fail
    refine (bWriteString_any W.heap.size _ tq V1 hL1.out (by rw [List.length_nil]; omega)).mono ?_
    rintro e V2 ⟨rfl, hN, hb, -⟩
    have hS2 := hid (hS1.out.belowB ho1 hg1 hb)
    have hD2 := hid ((hb.block D hDlt).trans hD1.out)
    have hL2 := hid hN
    clear hb hN hS1 hD1 hL1
    go_wp2_with fail
    refine (bWriteString_any W.heap.size _ once V2 hL2.out (by simp only [List.length_append, List.length_nil, data_length]; omega)).mono ?_
    rintro e V3 ⟨rfl, hN, hb, -⟩
    have hS3 := hid (hS2.out.belowB ho1 hg1 hb)
    have hD3 := hid ((hb.block D hDlt).trans hD2.out)
    have hL3 := hid hN
    clear hb hN hS2 hD2 hL2
    have c1 := hS3.out.k.c 1 _ gg.out.2.1
    go_wp2_with fail
    refine (hty.out _).mono ?_
    rintro e w' ⟨rfl, rfl⟩
    go_wp2_with fail
    refine (hut.out _).mono ?_
    rintro e V4 ⟨rfl, hb⟩
    have hS4 := hid (hS3.out.below hb)
    have hD4 := hid (blk_on hD3.out hb)
    have hL4 := hid (hL3.out.below hb)
    clear hb hS3 hD3 hL3
    clear c1
    go_wp2_with fail
    refine (bWriteString_any W.heap.size _ tt V4 hL4.out (by simp only [List.length_append, List.length_nil, data_length]; omega)).mono ?_
    rintro e V5 ⟨rfl, hN, hb, -⟩
    have hS5b := hid (hS4.out.belowB ho1 hg1 hb)
    have hD5 := hid ((hb.block D hDlt).trans hD4.out)
    have hL5 := hid hN
    clear hb hN hS4 hD4 hL4
    obtain ⟨pr, hpr⟩ : ∃ pr, [] ++ tq.data.toList ++ once.data.toList ++ tt.data.toList = pr := ⟨_, rfl⟩
    have hprl : pr.length ≤ 3000 := by rw [← hpr]; simp only [List.length_append, List.length_nil, data_length]; omega
    rw [hpr] at hL5
    have hpr' := hid hpr
    clear hpr
    have csl := hS5b.out.sl.c 0 _ rfl
    go_wp2_with fail
    clear csl
    go_loopw [85] (fun i wr => ∃ k : Nat, k ≤ h ∧ i = .int .i64 (k : Int) ∧ SgSt w W3.heap.size W5.heap.size kc h Lp wr ∧ wr.heap[D]? = some (.deferred (some [])) ∧ Bld wr W.heap.size (pr ++ (Lp.take k).flatten)) (fun i _ => h - (intOf i).toNat)
    case atStart => exact ⟨0, Nat.zero_le _, rfl, hS5b.out, hD5.out, by rw [List.take_zero, List.flatten_nil, List.append_nil]; exact hL5.out⟩
    case round =>
      obtain ⟨k, hk, rfl, hSr, hDr, hLr⟩ := hrel
      have S0 := hid hSr
      have D0 := hid hDr
      have L0 := hid hLr
      have hWr : W.heap.size < wr.heap.size := hLr.lt
      clear hSr hDr hLr
      by_cases hkh : k < h
      · have hki : (k : Int) < (h : Int) := by omega
        have ukw := IntWalk.i64_in ((k : Int) + 1) (by omega)
        obtain ⟨x, hx⟩ : ∃ x, Lp[k]? = some x := ⟨_, List.getElem?_eq_getElem (by rw [hLl'.out]; exact hkh)⟩
        have hx32 := hL32.out x (List.mem_of_getElem? hx)
        have hCx := hid (hash_cells x hx32)
        have hrg := hid (S0.out.at_ hL32.out hx)
        have hft := hid (flat_take hx)
        have hfl : ((Lp.take k).flatten).length ≤ 1000 := by
          have e := Lms.flat_len (Lp.take k) (fun y hy => hL32.out y (List.mem_of_mem_take hy))
          rw [e, List.length_take, hLl'.out]
          omega
        clear hx
        go_wp2_with (first
          | ((with_reducible refine at_slot (some 88) ?_); refine wpList_load_mid rfl 60 (.tmp 87) rfl W3.heap.size (k * 32) rfl (byteCells x) _ (by exact hrg.out) Tryz.underlying60 rfl (by exact hCx.out.size') ?_)
          | ((with_reducible refine at_slot (some 16) ?_); refine wpList_run rfl (.pointer (some ⟨wr.heap.size, 0, none⟩)) (wr.alloc (.cells z32 60)) (by kernel_rfl) ?_)
          | ((with_reducible refine at_slot none ?_); refine wpList_store_mid rfl 60 (.tmp 16) (.tmp 88) rfl wr.heap.size 0 (byteCells x).toArray rfl rfl (by exact hCx.out.there wr) (by exact hCx.out.size) (by exact hCx.out.one) ?_; generalize hW6 : World.setCells _ _ _ _ = W6; obtain ⟨hN, hb⟩ := hCx.out.new hW6; have S1 := hid (S0.out.below hb); have D1 := hid (blk_on D0.out hb); have L1 := hid (L0.out.below hb); have X1 := hid hN; clear hW6 hN hb)
          | fail)
        refine (bWrite_any W.heap.size wr.heap.size 32 _ x W6 L1.out hx32 X1.out (by omega) (by rw [List.length_append]; omega)).mono ?_
        rintro e W7 ⟨rfl, hN, hb, -⟩
        have S2 := hid (S1.out.belowB ho1 hg1 hb)
        have D2 := hid ((hb.block D hDlt).trans D1.out)
        have L2 := hid hN
        clear hb hN
        go_wp2_with fail
        go_roundw
        case rel => exact ⟨k + 1, by omega, by go_num, S2.out, D2.out, by rw [hft.out, ← List.append_assoc]; exact L2.out⟩
        case measure => simp [intOf]; omega
      · obtain rfl : k = h := by omega
        have hki : ¬ (k : Int) < (k : Int) := by omega
        have c4 := S0.out.k.c 4 _ gg.out.2.2.2.2
        have f4 : wr.frozen? ⟨w.heap.size, 4, none⟩ = false := S0.out.k.frozen 4
        go_wp2_with fail
        obtain ⟨V7, hV7⟩ : ∃ V7, wr.setCell ⟨w.heap.size, 4, none⟩ (.int .i64 ((q : Int) + 1)) = V7 := ⟨_, rfl⟩
        have S7 := S0.out.next ho1 _ hV7
        have hV7' : wr.setCells w.heap.size 4 [.int .i64 ((q : Int) + 1)] = V7 := hV7
        have D7 : V7.heap[D]? = some (.deferred (some [])) := by rw [← hV7']; exact (cells_far _ _ _ _ _ (by omega)).trans D0.out
        have L7 := L0.out.far (by omega) hV7'
        rw [hV7]
        obtain ⟨kc2, hkc2⟩ : ∃ kc2, kc.set 4 (.int .i64 ((q : Int) + 1)) = kc2 := ⟨_, rfl⟩
        rw [hkc2] at S7
        have hk2 : keyC (kd : Int) (k : Int) id seed ((q : Int) + 1) = kc2 := by rw [← hkc2, ← hkc'.out]; rfl
        have hk2l : kc2.length = 5 := by rw [← hk2]; rfl
        have hk2o := hid (show kc2.toArray.all (·.oneCell') = true from by rw [← hk2]; exact keyC_one _ _ _ _ _)
        have hk2s := hid (show (Tryz.prog.info? 39).map (·.size) = some kc2.toArray.size from by rw [List.size_toArray, hk2l]; exact sizeKey)
        have hk2s' := hid (show (Tryz.prog.info? 39).map (·.size) = some kc2.length from by rw [hk2l]; exact sizeKey)
        rw [List.take_of_length_le (by rw [hLl'.out]; exact Nat.le_refl _)] at L7
        obtain ⟨txl, htxl⟩ : ∃ l, pr ++ Lp.flatten = l := ⟨_, rfl⟩
        rw [htxl] at L7
        have htx' := hid htxl
        have hk2' := hid hk2
        have hb : Below V7.heap.size V7 V7.drew := (Below.refl _ _).drew
        have K8 := hid (S7.k.below hb S7.k.lt)
        have Z8 := hid (S7.z.below hb S7.z.lt)
        have B8 := hid (below_up hb S7.b)
        have D8 := hid (blk_on D7 hb)
        have L8 := hid (L7.below hb)
        clear S7 D7 L7 hV7 hV7' hb hkc2 hk2 htxl c4 f4 S0 D0 L0
        refine wp_region_noPanic ?_
        refine wp_region_held_drew (S := fun V => Holds V w.heap.size 39 kc2) (by kernel_rfl) (by exact K8.out) (fun zH => ?_)
        generalize V7.drew = V8 at *
        refine tkx 1 (.agg kc2.toArray) zH ?_ (hy := yieldsIf_load_mid (by kernel_rfl) _ _ rfl _ _ rfl _ _ (fun V h => h_all h) Tryz.underlying39 rfl (by exact hk2s'.out)); simp only [lp]
        refine wpAnyH_ready (rs := [0]) (by kernel_rfl) (by simp) (AllReadyH.cons rfl (fun K hK => ?_) AllReadyH.nil)
        have hK' := hid hK
        clear hK
        rw [if_pos (by kernel_rfl)]
        simp only [ly1, ly3]
        go_simp
        refine (bString_any W.heap.size txl V8 L8.out).mono ?_
        rintro e V9 ⟨rfl, hb⟩
        have K9 := hid (K8.out.below hb (by omega))
        have Z9 := hid (Z8.out.below hb (by omega))
        have B9 := hid (B8.out.trans (hb.mono (by omega)))
        have D9 := hid ((hb.block D hDlt).trans D8.out)
        clear hb K8 Z8 B8 D8 L8
        refine hK'.out _ _ (by exact K9.out) (fun zH => ?_)
        clear hK' K
        refine tkx 2 (.string (txt txl)) zH ?_; simp only [lp]
        refine wpAnyH_ready (rs := [3]) (by kernel_rfl) (by simp) (AllReadyH.cons rfl (fun K hK => ?_) AllReadyH.nil)
        have hK' := hid hK
        clear hK
        rw [if_pos (by kernel_rfl)]
        simp only [ly1, ly2, ly3]
        refine wp_store_mid _ _ _ rfl (w.heap.size + 1) 0 kc2.toArray rfl rfl (by exact Z9.out.there 0 _ (by rw [List.size_toArray, hk2l]; decide)) (by exact hk2s.out) (by exact hk2o.out) ?_
        generalize hXx : World.setCells _ _ _ _ = V10
        have Z10 := hid (Z9.out.over (by rw [hk2l]; rfl) hXx)
        have K10 := hid (holds_far K9.out (by omega) hXx)
        have B10 := hid (below_put B9.out (by omega) hXx)
        have D10 : V10.heap[D]? = some (.deferred (some [])) := by rw [← hXx]; exact (cells_far _ _ _ _ _ (by omega)).trans D9.out
        have D10' := hid D10
        clear hXx K9 Z9 B9 D9 D10
        refine hK'.out _ _ (by exact K10.out) (fun zH => ?_)
        clear hK' K
        refine tkx 4 (.int .i64 0) zH ?_; simp only [lp]
        refine wpAnyH_done (by kernel_rfl) ?_ _
        refine NoPanic.normal ?_
        go_wp2_with fail
        refine ⟨by simp, .inl ⟨_, _, rfl, run_takeDeferred D10'.out, ?_⟩⟩
        have hz10 : (V10.putObj D (.deferred none)).heap[w.heap.size + 1]? = some (.cells kc2.toArray 39 (0, 0)) := (World.putObj_heap_other (by omega)).trans Z10.out
        refine ⟨_, results_tct rfl _ _ (w.heap.size + 1) 39 _ (0, 0) _ _ _ rfl rfl hz10 rfl Tryz.underlying39 rfl (by exact hk2s.out), ?_, B10.out.trans (belowK_b (w := w) (Nat.le_refl _) _ D _ _ (by omega) D10'.out rfl rfl)⟩
        have e1 : txt txl = sigT p kd k id seed q msg := by
          rw [← htx'.out, ← hpr'.out, ← htq'.out, ← htt'.out, ← hLp'.out, ← hon.out]
          unfold sigT Lms.signL
          rw [Lms.path_at _ _ k k 0 _ (Nat.add_zero _) (by rw [hRR.out]; exact hR1'.out) (by rw [hRR.out]; exact hR2'.out), txt_list, List.nil_append, ← hnd'.out, hRR.out]
          rfl
        rw [← e1]
        rw [show keyC (kd : Int) (k : Int) id seed ((q : Int) + 1) = kc2 from hk2'.out]
        rfl


end Go.Proofs.YtmfajekfipfjpaaGreat
namespace Go.Proofs.YtmfajekfipfjpaaGreat
open Go.RowKit
open Go.Lib (strCells strCells_length strCells_oneCell)
attribute [local irreducible] Sha.compress Sha.blocks Sha.sha Sha.pad

theorem sizePub : (Tryz.prog.info? 133).map (·.size) = some 8 := by kernel_rfl
/-- What parse reads: the cells of a public key. -/
def pbC (a b c d : ByteArray) (h : Nat) (o : Array Value) : List Value := [.string a, .string b, .string c, .string d, .int .i64 (h : Int)] ++ o.toList
def zp8 : List Value := [.string ⟨#[]⟩, .string ⟨#[]⟩, .string ⟨#[]⟩, .string ⟨#[]⟩, .int .i64 0, .int .i64 0, .int .i64 0, .int .i64 0]
def pb0 (a b c d : ByteArray) : List Value := [.string a, .string b, .string c, .string d, .int .i64 0, .int .i64 0, .int .i64 0, .int .i64 0]
theorem pb0_one (a b c d : ByteArray) : (pb0 a b c d).toArray.all (·.oneCell') = true := by simp [pb0, Value.oneCell']
theorem pb_new {W W7 : World} {cs : List Value} (hc : cs.length = 8) (h : (W.alloc (.cells zp8.toArray 133)).setCells W.heap.size 0 cs = W7) : Holds W7 W.heap.size 133 cs ∧ Below W.heap.size W W7 := by
  have hH := Holds.new W 133 zp8.toArray
  have hb : Below W.heap.size W (W.alloc (.cells zp8.toArray 133)) := (Below.refl _ _).alloc (Nat.le_refl _) _
  exact ⟨Holds.over hH (by rw [hc]; rfl) h, below_put hb (Nat.le_refl _) h⟩
theorem cut_take (s : ByteArray) (a n : Nat) (_h : a + n ≤ s.size) : (s.extract a (a + n)).data.toList = (s.data.toList.drop a).take n := by
  simp only [ByteArray.data_extract, Array.toList_extract, List.extract_eq_take_drop]
  congr 1
  omega

set_option maxHeartbeats 2000000 in
theorem parse_good (s : ByteArray) (hs : s.size = 56) (a b c d : ByteArray) (ha : s.extract 0 4 = a) (hb4 : s.extract 4 8 = b) (hc4 : s.extract 8 24 = c) (hd4 : s.extract 24 s.size = d) (cs : Array Value) (ok : Bool) (hans : parAns (numL b.data.toList : Int) = .tuple #[.agg cs, .bool ok]) (hcs : cs.size = 3) (h1c : cs.all (·.oneCell') = true) (w : World) :
    Calls Tryz.prog 80 #[.string s] w fun e w' => e = .returned (.tuple #[.agg (pbC a b c d (hgt (numL a.data.toList)) cs).toArray, .bool (hgtIs (numL a.data.toList) && ok)]) ∧ Below w.heap.size w w' := by
  obtain ⟨W0, hW0⟩ : ∃ W0, w.alloc (.cells zp8.toArray 133) = W0 := ⟨_, rfl⟩
  have hZ0 := hid (show Holds W0 w.heap.size 133 zp8 from by rw [← hW0]; exact Holds.new _ _ zp8.toArray)
  have hB0 := hid (show Below w.heap.size w W0 from by rw [← hW0]; exact (Below.refl _ _).alloc (Nat.le_refl _) _)
  have hW0' := hid hW0
  have hsz : (Tryz.prog.info? 133).map (·.size) = some 8 := sizePub
  have e1 : ((s.size : Int) == 56) = true := by rw [hs]; rfl
  have za : a.size ≤ 4 := by rw [← ha, ByteArray.size_extract]; omega
  have zb : b.size ≤ 4 := by rw [← hb4, ByteArray.size_extract]; omega
  have hOa := hid (fun W => Of_any a W za)
  have hOb := hid (fun W => Of_any b W zb)
  have l4 : (4 : Int) ≤ (s.size : Int) := by omega
  have l8 : (8 : Int) ≤ (s.size : Int) := by omega
  have l24 : (24 : Int) ≤ (s.size : Int) := by omega
  obtain ⟨na, hna⟩ : ∃ n, numL a.data.toList = n := ⟨_, rfl⟩
  obtain ⟨nb, hnb⟩ : ∃ n, numL b.data.toList = n := ⟨_, rfl⟩
  rw [hna] at hOa ⊢
  rw [hnb] at hOb hans
  have hHt := hid (fun W => HeightOf_any na W)
  have hOt := hid (fun W => OtsOf_any (nb : Int) W)
  obtain ⟨h, hh⟩ : ∃ h, hgt na = h := ⟨_, rfl⟩
  obtain ⟨hi, hhi⟩ : ∃ h, hgtIs na = h := ⟨_, rfl⟩
  rw [hh, hhi] at hHt ⊢
  rw [hans] at hOt
  have hp0 := hid (pb0_one a b c d)
  clear hW0 za zb hna hnb hh hhi hans hs
  go_enter Tryz.func80, Tryz.ntmps80
  go_wp2_with (first
    | ((with_reducible refine at_slot (some 2) ?_); refine wpList_run rfl (.pointer (some ⟨w.heap.size, 0, none⟩)) (w.alloc (.cells zp8.toArray 133)) (by kernel_rfl) ?_; rw [hW0'.out])
    | fail)
  have hb : Below W0.heap.size W0 W0.drew := (Below.refl _ _).drew
  have hZ1 := zon hb hZ0
  have hB1 := zup hb hB0
  clear hb hZ0 hB0
  refine wp_region_held_drew (S := fun _ => True) (by kernel_rfl) (by exact trivial) (fun zH => ?_)
  generalize W0.drew = W1 at *
  have hlt0' := hid hZ1.out.lt
  refine tkx 0 (.string s) zH ?_; simp only [lp]
  refine tkx 1 (.string a) zH ?_; simp only [lp]
  refine tkx 2 (.string s) zH ?_; simp only [lp]
  refine tkx 3 (.string b) zH ?_; simp only [lp]
  refine tkx 4 (.string s) zH ?_; simp only [lp]
  refine tkx 5 (.string c) zH ?_; simp only [lp]
  refine tkx 6 (.string s) zH ?_; simp only [lp]
  refine tkx 7 (.string d) zH ?_; simp only [lp]
  refine tkx 8 (.agg (pb0 a b c d).toArray) zH ?_ (hy := .inl ⟨by kernel_rfl, fun w _ => by unfold pb0; go_simp⟩); simp only [lp]
  refine wpAnyH_ready (rs := [9]) (by kernel_rfl) (by simp) (AllReadyH.cons rfl (fun K hK => ?_) AllReadyH.nil)
  have hK' := hid hK
  clear hK
  rw [if_pos (by kernel_rfl)]
  simp only [ly1, ly2, ly3]
  refine wp_run (.pointer (some ⟨W1.heap.size, 0, none⟩)) (W1.alloc (.cells zp8.toArray 133)) (by kernel_rfl) ?_
  have hb := (Below.refl W1.heap.size W1).alloc (Nat.le_refl _) (.cells zp8.toArray 133)
  refine hK'.out _ _ (by exact trivial) (fun zH => ?_)
  clear hK' K
  refine wpAnyH_ready (rs := [10]) (by kernel_rfl) (by simp) (AllReadyH.cons rfl (fun K hK => ?_) AllReadyH.nil)
  have hK' := hid hK
  clear hK
  rw [if_pos (by kernel_rfl)]
  simp only [ly1, ly2, ly3]
  refine wp_store_mid _ _ _ rfl W1.heap.size 0 (pb0 a b c d).toArray rfl rfl (by exact (Holds.new W1 133 zp8.toArray).there 0 _ (Nat.le_refl 8)) (by exact hsz) (by exact hp0.out) ?_
  generalize hW2 : World.setCells _ _ _ _ = W2
  obtain ⟨hN, hb⟩ := pb_new rfl hW2
  have hZ2 := zon hb hZ1
  have hB2 := zup hb hB1
  have hP2 := hid hN
  clear hb hZ1 hB1 hN hW2
  refine hK'.out _ _ (by exact trivial) (fun zH => ?_)
  clear hK' K
  refine wpAnyH_done (by kernel_rfl) ?_ _
  have p0 := hP2.out.c 0 _ rfl
  go_wp2_with fail
  refine (hOa.out _).mono ?_
  rintro e w' ⟨rfl, rfl⟩
  go_wp2_with fail
  refine (hHt.out _).mono ?_
  rintro e W3 ⟨rfl, hb⟩
  have hZ3 := zon hb hZ2
  have hB3 := zup hb hB2
  have hP3 := zon hb hP2
  clear hb hZ2 hB2 hP2 p0
  have p1 := hP3.out.c 1 _ rfl
  go_wp2_with fail
  refine (hOb.out _).mono ?_
  rintro e w' ⟨rfl, rfl⟩
  go_wp2_with fail
  refine (hOt.out _).mono ?_
  rintro e W4 ⟨rfl, hb⟩
  have hZ4 := zon hb hZ3
  have hB4 := zup hb hB3
  have hP4 := zon hb hP3
  clear hb hZ3 hB3 hP3 p1
  have hthere := par_there W4 cs hcs
  have hcz := par_size cs hcs
  go_wp2_with (first
    | ((with_reducible refine at_slot (some 7) ?_); refine wpList_run rfl (.pointer (some ⟨W4.heap.size, 0, none⟩)) (W4.alloc (.cells noC 54)) (by kernel_rfl) ?_)
    | ((with_reducible refine at_slot none ?_); refine wpList_store_mid rfl 54 (.tmp 7) (.tmp 34) rfl W4.heap.size 0 cs rfl rfl (by exact hthere) (by exact hcz) (by exact h1c) ?_; generalize hW7 : World.setCells _ _ _ _ = W5; have hP7 := par_new cs hcs hW7; have hZ5 := hid (hZ4.out.below hP7.2 hZ4.out.lt); have hB5 := hid (below_up hP7.2 hB4.out); have hP5 := hid (hP4.out.below hP7.2 hP4.out.lt); have hO5 := hid hP7.1; have hs7 := hP7.2.size; clear hP7 hW7)
    | fail)
  obtain ⟨q7, hq7⟩ : ∃ q, W4.heap.size = q := ⟨_, rfl⟩
  rw [hq7] at hO5 ⊢
  obtain ⟨g4, hg4⟩ : ∃ q, W1.heap.size = q := ⟨_, rfl⟩
  rw [hg4] at hP5 ⊢
  have hlt4 : g4 < q7 := by have := hP4.out.lt; omega
  have hlt0 : w.heap.size < g4 := by have := hlt0'.out; omega
  have hlw : w.heap.size < W5.heap.size := hZ5.out.lt
  have hb : Below W5.heap.size W5 W5.drew := (Below.refl _ _).drew
  have hZ6 := zon hb hZ5
  have hB6 := zup hb hB5
  have hP6 := zon hb hP5
  have hO6 := zon hb hO5
  clear hb hZ5 hB5 hP5 hO5
  have hcz' := hid (show (Tryz.prog.info? 54).map (·.size) = some cs.toList.length from by rw [Array.length_toList]; exact hcz)
  obtain ⟨c0, c1, c2, hcs3⟩ : ∃ x y z, cs.toList = [x, y, z] := by
    have e : cs.toList.length = 3 := by rw [Array.length_toList, hcs]
    match cs.toList, e with
    | [x, y, z], _ => exact ⟨x, y, z, rfl⟩
  have hfin : put ((pb0 a b c d).set 4 (.int .i64 (h : Int))) 5 cs.toList = pbC a b c d h cs := by
    unfold pbC
    rw [hcs3]
    rfl
  have hfl : (pbC a b c d h cs).length = 8 := by
    unfold pbC
    rw [hcs3]
    rfl
  have hf1 : (pbC a b c d h cs).toArray.all (·.oneCell') = true := by
    have e : cs = #[c0, c1, c2] := by rw [← Array.toList_inj, hcs3]
    subst e
    simp [pbC, Value.oneCell'] at h1c ⊢
    exact h1c
  have hfs := hid (show (Tryz.prog.info? 133).map (·.size) = some (pbC a b c d h cs).toArray.size from by rw [List.size_toArray, hfl]; exact sizePub)
  have hfs' := hid (show (Tryz.prog.info? 133).map (·.size) = some (pbC a b c d h cs).length from by rw [hfl]; exact sizePub)
  have hfin' := hid hfin
  clear hfin hcs3
  refine wp_region_held_drew (S := fun V => Holds V q7 54 cs.toList) (by kernel_rfl) (by exact hO6.out) (fun zH => ?_)
  generalize W5.drew = V0 at *
  refine tkx 0 (.int .i64 (h : Int)) zH ?_; simp only [lp]
  refine tkx 1 (.agg cs) zH ?_ (hy := yieldsIf_load_mid (by kernel_rfl) _ _ rfl _ _ rfl _ _ (fun V hS => h_all hS) Tryz.underlying54 rfl (by exact hcz'.out)); simp only [lp]
  refine tkx 2 (.pointer (some ⟨g4, 4, none⟩)) zH ?_; simp only [lp]
  have p4 := hP6.out.c 4 _ rfl
  have f4 : V0.frozen? ⟨g4, 4, none⟩ = false := hP6.out.frozen 4
  refine wpAnyH_ready (rs := [3]) (by kernel_rfl) (by simp) (AllReadyH.cons rfl (fun K hK => ?_) AllReadyH.nil)
  have hK' := hid hK
  clear hK
  rw [if_pos (by kernel_rfl)]
  simp only [ly1, ly2, ly3]
  go_simp
  obtain ⟨V1, hV1⟩ : ∃ V1, V0.setCell ⟨g4, 4, none⟩ (.int .i64 (h : Int)) = V1 := ⟨_, rfl⟩
  have e1s : V0.setCells g4 4 [.int .i64 (h : Int)] = V1 := hV1
  have P1 := hid (show Holds V1 g4 133 ((pb0 a b c d).set 4 (.int .i64 (h : Int))) from by rw [← hV1]; exact hP6.out.set 4 _)
  have O1 := hid (holds_far hO6.out (by omega) e1s)
  have Z1 := hid (holds_far hZ6.out (by omega) e1s)
  have B1 := hid (below_put hB6.out (by omega) e1s)
  rw [hV1]
  clear p4 f4 hV1 e1s
  refine hK'.out _ _ (by exact O1.out) (fun zH => ?_)
  clear hK' K
  refine tkx 4 (.pointer (some ⟨g4, 5, none⟩)) zH ?_; simp only [lp]
  refine wpAnyH_ready (rs := [5]) (by kernel_rfl) (by simp) (AllReadyH.cons rfl (fun K hK => ?_) AllReadyH.nil)
  have hK' := hid hK
  clear hK
  rw [if_pos (by kernel_rfl)]
  simp only [ly1, ly2, ly3]
  refine wp_store_mid _ _ _ rfl g4 5 cs rfl rfl (by exact P1.out.there 5 _ (by rw [hcs]; exact Nat.le_refl 8)) (by exact hcz) (by exact h1c) ?_
  generalize hV2 : World.setCells _ _ _ _ = V2
  have P2 := hid (show Holds V2 g4 133 (pbC a b c d h cs) from by rw [← hfin'.out, ← hV2]; exact P1.out.put 5 _ (by rw [Array.length_toList, hcs]; exact Nat.le_refl 8))
  have O2 := hid (holds_far O1.out (by omega) hV2)
  have Z2 := hid (holds_far Z1.out (by omega) hV2)
  have B2 := hid (below_put B1.out (by omega) hV2)
  clear hV2 P1 O1 Z1 B1
  refine hK'.out _ _ (by exact O2.out) (fun zH => ?_)
  clear hK' K
  refine wpAnyH_done (by kernel_rfl) ?_ _
  cases hi with
  | false =>
    go_wp2_with (first
      | ((with_reducible refine at_slot (some 40) ?_); refine wpList_load_mid rfl 133 (.tmp 4) rfl g4 0 rfl (pbC a b c d h cs) _ (by exact h_all P2.out) Tryz.underlying133 rfl (by exact hfs'.out) ?_)
      | ((with_reducible refine at_slot none ?_); refine wpList_store_mid rfl 133 (.tmp 2) (.tmp 40) rfl w.heap.size 0 (pbC a b c d h cs).toArray rfl rfl (by exact Z2.out.there 0 _ (by rw [List.size_toArray, hfl]; exact Nat.le_refl 8)) (by exact hfs.out) (by exact hf1) ?_; generalize hV3 : World.setCells _ _ _ _ = V3; have Z3 := hid (Z2.out.over (by rw [hfl]; rfl) hV3); have B3 := hid (below_put B2.out (Nat.le_refl _) hV3); clear hV3)
      | fail)
    exact bodyPost_ret (results_ct rfl _ _ w.heap.size 133 (pbC a b c d h cs).toArray (0, 0) _ rfl Z3.out (.bool false) rfl Tryz.underlying133 rfl (by exact hfs.out)) rfl ⟨rfl, B3.out⟩
  | true =>
    go_wp2_with (first
      | ((with_reducible refine at_slot (some 40) ?_); refine wpList_load_mid rfl 133 (.tmp 4) rfl g4 0 rfl (pbC a b c d h cs) _ (by exact h_all P2.out) Tryz.underlying133 rfl (by exact hfs'.out) ?_)
      | ((with_reducible refine at_slot none ?_); refine wpList_store_mid rfl 133 (.tmp 2) (.tmp 40) rfl w.heap.size 0 (pbC a b c d h cs).toArray rfl rfl (by exact Z2.out.there 0 _ (by rw [List.size_toArray, hfl]; exact Nat.le_refl 8)) (by exact hfs.out) (by exact hf1) ?_; generalize hV3 : World.setCells _ _ _ _ = V3; have Z3 := hid (Z2.out.over (by rw [hfl]; rfl) hV3); have B3 := hid (below_put B2.out (Nat.le_refl _) hV3); clear hV3)
      | fail)
    exact bodyPost_ret (results_ct rfl _ _ w.heap.size 133 (pbC a b c d h cs).toArray (0, 0) _ rfl Z3.out (.bool ok) rfl Tryz.underlying133 rfl (by exact hfs.out)) rfl ⟨rfl, B3.out⟩

end Go.Proofs.YtmfajekfipfjpaaGreat
namespace Go.Proofs.YtmfajekfipfjpaaGreat
open Go.RowKit
open Go.Lib (strCells strCells_length strCells_oneCell)
attribute [local irreducible] Sha.compress Sha.blocks Sha.sha Sha.pad

end Go.Proofs.YtmfajekfipfjpaaGreat
namespace Go.Proofs.YtmfajekfipfjpaaGreat
open Go.RowKit
open Go.Lib (strCells strCells_length strCells_oneCell)
attribute [local irreducible] Sha.compress Sha.blocks Sha.sha Sha.pad

/-- The root that a signature comes to. -/
def rootOk (p : Ots.Par) (h : Nat) (c msg s : ByteArray) : List UInt8 := Lms.rootOf p h c.data.toList msg.data.toList s.data.toList
theorem climb_len (id : List UInt8) : ∀ (ys : List (List UInt8)) (r : Nat) (x : List UInt8), x.length = 32 → (Lms.climb id ys r x).length = 32
  | [], _, _, h => h
  | y :: ys, r, x, h => by
    rw [Lms.climb]
    refine climb_len id ys _ _ ?_
    split
    · exact Lms.join_len _ _ _ _
    · exact Lms.join_len _ _ _ _
set_option maxHeartbeats 2000000 in
theorem Verify_good (pb msg s a b c d : ByteArray) (p : Ots.Par) (h : Nat) (P : List Value) (hPC : pbC a b c d h (parC p) = P) (hp67 : p.p ≤ 67) (h5 : h ≤ 5) (hpz : ∀ W, Calls Tryz.prog 80 #[.string pb] W fun e w' => e = .returned (.tuple #[.agg P.toArray, .bool true]) ∧ Below W.heap.size W w') (hs : s.size = 44 + 32 * p.p + 32 * h) (hx1 : numL (s.extract 0 4).data.toList < 2 ^ h) (hx2 : (s.extract 4 (40 + 32 * p.p)).extract 0 4 = b) (hx3 : (s.extract (40 + 32 * p.p) s.size).extract 0 4 = a) (_hms : msg.size ≤ 140737488351232) (hpar : Ots.par (numL b.data.toList : Int) = some p) (h1 : 1 ≤ h) (hc16 : c.size = 16) (hm65 : msg.size ≤ 65536) (ans : Int) (hans : (if rootOk p h c msg s = d.data.toList then (0 : Int) else 502) = ans) (w : World) : Calls Tryz.prog 50 #[.string pb, .string msg, .string s] w fun e w' => e = .returned (.int .i64 ans) ∧ Below w.heap.size w w' := by
  have hP8 : P.length = 8 := by rw [← hPC]; rfl
  have hP1 : P.toArray.all (·.oneCell') = true := by rw [← hPC]; simp [pbC, parC, Value.oneCell']
  have hcell := hid (show ∀ (W : World) (g : Nat), Holds W g 133 P → W.cell? ⟨g, 0, none⟩ = some (.string a) ∧ W.cell? ⟨g, 1, none⟩ = some (.string b) ∧ W.cell? ⟨g, 2, none⟩ = some (.string c) ∧ W.cell? ⟨g, 3, none⟩ = some (.string d) ∧ W.cell? ⟨g, 4, none⟩ = some (.int .i64 (h : Int)) from fun W g hh => by
    rw [← hPC] at hh
    exact ⟨hh.c 0 _ rfl, hh.c 1 _ rfl, hh.c 2 _ rfl, hh.c 3 _ rfl, hh.c 4 _ rfl⟩)
  obtain ⟨oc, hoc⟩ : ∃ c, parC p = c := ⟨_, rfl⟩
  have hrange := hid (show ∀ (W : World) (g : Nat), Holds W g 133 P → W.rangeAt g 5 oc.toList from fun W g hh => hh.range 5 _ (fun j hj => by
    rw [← hPC, ← hoc]
    show ([.string a, .string b, .string c, .string d, .int .i64 (h : Int)] ++ (parC p).toList)[5 + j]? = _
    rw [List.getElem?_append_right (by show 5 ≤ 5 + j; omega)]
    congr 1
    show 5 + j - 5 = j
    omega))
  have hocs := hid (show (Tryz.prog.info? 54).map (·.size) = some oc.toList.length from by rw [← hoc]; exact Tryz.sizeOts)
  have htl := hid (fun W => TreeLength_any p h (by omega) h5 W)
  have hln := hid (fun W => Length_any p (by omega) W)
  rw [hoc] at htl hln
  obtain ⟨LL, hLL⟩ : ∃ L, 44 + 32 * p.p + 32 * h = L := ⟨_, rfl⟩
  rw [hLL] at htl
  clear hPC hoc
  obtain ⟨m1, hm1⟩ : ∃ m, 36 + 32 * p.p = m := ⟨_, rfl⟩
  rw [hm1] at hln
  obtain ⟨n1, hn1⟩ : ∃ m, 4 + m1 = m := ⟨_, rfl⟩
  have hsz : s.size = n1 + 4 + 32 * h := by omega
  have hse : ((s.size : Int) == (LL : Int)) = true := by rw [hs, hLL]; simp
  have um := IntWalk.i64_in (n1 : Int) (by omega)
  have hsum : 4 + (m1 : Int) = (n1 : Int) := by omega
  have b1 : (4 : Int) ≤ (s.size : Int) := by omega
  have b2 : (4 : Int) ≤ (n1 : Int) := by omega
  have b3 : (n1 : Int) ≤ (s.size : Int) := by omega
  have hn4 : 4 ≤ n1 := by omega
  obtain ⟨s4, hs4⟩ : ∃ x, s.extract 0 4 = x := ⟨_, rfl⟩
  obtain ⟨once, honce⟩ : ∃ x, s.extract 4 n1 = x := ⟨_, rfl⟩
  obtain ⟨rest, hrest⟩ : ∃ x, s.extract n1 s.size = x := ⟨_, rfl⟩
  have zo : once.size = m1 := by rw [← honce, ByteArray.size_extract]; omega
  have zr : rest.size = 4 + 32 * h := by rw [← hrest, ByteArray.size_extract]; omega
  have zq : s4.size ≤ 4 := by rw [← hs4, ByteArray.size_extract]; omega
  have b4 : (4 : Int) ≤ (once.size : Int) := by omega
  have b5 : (4 : Int) ≤ (rest.size : Int) := by omega
  have hOf := hid (fun W => Of_any s4 W zq)
  obtain ⟨q, hq⟩ : ∃ q, numL s4.data.toList = q := ⟨_, rfl⟩
  rw [hq] at hOf
  obtain ⟨o4, ho4⟩ : ∃ x, once.extract 0 4 = x := ⟨_, rfl⟩
  obtain ⟨r4, hr4⟩ : ∃ x, rest.extract 0 4 = x := ⟨_, rfl⟩
  obtain ⟨Z, hZ⟩ : ∃ Z : Int, ((2 ^ h : Nat) : Int) = Z := ⟨_, rfl⟩
  have hZw : IntKind.i64.wrap (2 ^ h) = Z := (shl_wrap h h5).trans hZ
  have hh2 := hid hs4
  have hh3 := hid honce
  have hh4 := hid hrest
  have hh5 := hid ho4
  have hh6 := hid hr4
  have hh7 := hid hq
  have hh8 := hid hZ
  have hh9 := hid hm1
  have hh10 := hid hn1
  have hhs := hid hsz
  have e40 : 40 + 32 * p.p = n1 := by omega
  rw [hs4, hq] at hx1
  rw [e40, honce, ho4] at hx2
  rw [e40, hrest, hr4] at hx3
  have hX1 : ¬ Z ≤ (q : Int) := by omega
  have ob : o4.toList = b.toList := by rw [hx2]
  have oa : r4.toList = a.toList := by rw [hx3]
  have hp32 : 2 ^ h ≤ 32 := Nat.pow_le_pow_right (show 0 < 2 by decide) h5
  have hq32 : q < 32 := by omega
  have hhp := hid hpar
  obtain ⟨R, hR⟩ : ∃ R, 2 ^ h + q = R := ⟨_, rfl⟩
  have hpw : 2 ^ (h + 1) = 2 * 2 ^ h := by rw [Nat.pow_succ, Nat.mul_comm]
  have hR1 := hid (show 2 ^ h ≤ R by omega)
  have hR2 := hid (show R < 2 ^ (h + 1) by omega)
  have hRw := IntWalk.i64_in (R : Int) (by omega)
  have hZR : Z + (q : Int) = (R : Int) := by omega
  obtain ⟨y, hy⟩ : ∃ y, Ots.cand p (Ots.head c.data.toList q) msg.data.toList once.data.toList = y := ⟨_, rfl⟩
  have hy32 : y.length = 32 := by rw [← hy]; exact Lms.cand_len _ _ _ _
  have hCy := hid (hash_cells y hy32)
  have hcd := hid (fun W => show Calls Tryz.prog 42 #[.string c, .int .i64 (q : Int), .string msg, .string once] W fun e w' => e = .returned (.tuple #[.agg (byteCells y).toArray, .int .i64 0]) ∧ Below W.heap.size W w' from by
    have hg : candGood (q : Int) c msg once = some p := by
      unfold candGood
      rw [if_neg (by omega), ← cut_list, ho4, hx2, hpar]
      exact if_pos ⟨by omega, by unfold Ots.may; rw [decide_eq_true ⟨hc16, by omega, by omega⟩], hm65⟩
    rw [← hy]
    exact Candidate_good (q : Int) c msg once p hg W)
  have hlf := hid (fun W => wayLeaf_any c R y W (by omega) hy32)
  obtain ⟨lf, hlf0⟩ : ∃ x, Lms.leaf c.data.toList R y = x := ⟨_, rfl⟩
  rw [hlf0] at hlf
  have hlf32 : lf.length = 32 := by rw [← hlf0]; exact Lms.leaf_len _ _ _
  obtain ⟨rt, hrt⟩ : ∃ x, rest.extract 4 rest.size = x := ⟨_, rfl⟩
  have zrt : rt.size = 32 * h := by rw [← hrt, ByteArray.size_extract]; omega
  have hro := hid (fun W => wayRoot_any c R h lf rt W (by omega) hlf32 hR1.out hR2.out (by omega) zrt)
  obtain ⟨rx, hrx⟩ : ∃ x, Lms.climb c.data.toList (Lms.cuts rt.data.toList h) R lf = x := ⟨_, rfl⟩
  rw [hrx] at hro
  have hrx32 : rx.length = 32 := by rw [← hrx]; exact climb_len _ _ _ _ hlf32
  have hCx := hid (hash_cells rx hrx32)
  unfold hv at hlf hro
  have hvx := hid (fun W g hh => hv_text rx hrx32 W g hh)
  obtain ⟨tx, htx⟩ : ∃ t, txt rx = t := ⟨_, rfl⟩
  rw [htx] at hvx
  have hroot : rootOk p h c msg s = rx := by
    unfold rootOk Lms.rootOf
    have e1 : s.data.toList.take 4 = s4.data.toList := by rw [← hs4, cut_list]
    have e2 : (s.data.toList.drop 4).take (36 + 32 * p.p) = once.data.toList := by
      rw [← honce, ← hn1, ← hm1]
      exact (cut_take s 4 _ (by omega)).symm
    have e3 : s.data.toList.drop (44 + 32 * p.p) = rt.data.toList := by
      rw [← hrt, cut_front rest 4 (by omega), ← hrest, cut_front s n1 (by omega), List.drop_drop]
      congr 1
      omega
    rw [e1, e2, e3, hq, hR, hy, hlf0, hrx]
  have hans' := hid hans
  have hroot' := hid hroot
  have htx' := hid htx
  clear hy hlf0 hrx htx hR hpw hpar hans hroot hp32
  have zr' := hid zr
  have zo' := hid zo
  clear e40 hs hsz hm1 hn1 hn4 zq hq hZ zr zo
  have hx1' := hid hx1
  have hx2' := hid hx2
  clear hx1 hx2 hx3
  have hpp := hid hpz
  have hPz := hid (show (Tryz.prog.info? 133).map (·.size) = some P.toArray.size from by rw [List.size_toArray, hP8]; exact sizePub)
  clear hpz
  go_enter Tryz.func50, Tryz.ntmps50
  go_wp2_with fail
  refine (hpp.out _).mono ?_
  rintro e W1 ⟨rfl, hb⟩
  have hB1 := hid hb
  clear hb
  go_wp2_with (first
    | ((with_reducible refine at_slot (some 7) ?_); refine wpList_run rfl (.pointer (some ⟨W1.heap.size, 0, none⟩)) (W1.alloc (.cells zp8.toArray 133)) (by kernel_rfl) ?_)
    | ((with_reducible refine at_slot none ?_); refine wpList_store_mid rfl 133 (.tmp 7) (.tmp 19) rfl W1.heap.size 0 P.toArray rfl rfl (by exact (Holds.new W1 133 zp8.toArray).there 0 _ (by rw [List.size_toArray, hP8]; exact Nat.le_refl 8)) (by exact hPz.out) (by exact hP1) ?_; generalize hW2 : World.setCells _ _ _ _ = W2; obtain ⟨hN, hb⟩ := pb_new hP8 hW2; have hP2 := hid hN; have hB2 := zup hb hB1; have hlt2 := hb.size; obtain ⟨c0, c1, c2, c3, c4⟩ := hcell.out _ _ hP2.out; clear hW2 hN hb)
    | ((with_reducible refine at_slot (some 27) ?_); refine wpList_load_any_on (by kernel_rfl) 54 (.tmp 26) rfl ⟨W1.heap.size, 5, none⟩ rfl oc.toList _ (by intro j v hv; rw [Addr.add_mid]; exact hrange.out _ _ hP2.out j v hv) Tryz.underlying54 rfl (by exact hocs.out) ?_)
    | fail)
  clear c0 c1 c2 c3 c4
  refine (htl.out _).mono ?_
  rintro e W3 ⟨rfl, hb⟩
  have hB3 := zup hb hB2
  have hP3 := zon hb hP2
  clear hb hB2 hP2
  go_wp2_with fail
  refine (hOf.out _).mono ?_
  rintro e w' ⟨rfl, rfl⟩
  go_wp2_with (first
    | ((with_reducible refine at_slot (some 38) ?_); refine wpList_load_mid rfl 54 (.tmp 37) rfl W1.heap.size 5 rfl oc.toList _ (by exact hrange.out _ _ hP3.out) Tryz.underlying54 rfl (by exact hocs.out) ?_)
    | fail)
  refine (hln.out _).mono ?_
  rintro e W4 ⟨rfl, hb⟩
  have hB4 := zup hb hB3
  have hP4 := zon hb hP3
  clear hb hB3 hP3
  go_wp2_with (first
    | ((with_reducible refine at_slot (some 44) ?_); refine wpList_load_mid rfl 54 (.tmp 43) rfl W1.heap.size 5 rfl oc.toList _ (by exact hrange.out _ _ hP4.out) Tryz.underlying54 rfl (by exact hocs.out) ?_)
    | fail)
  refine (hln.out _).mono ?_
  rintro e W5 ⟨rfl, hb⟩
  have hB5 := zup hb hB4
  have hP5 := zon hb hP4
  clear hb hB4 hP4
  go_wp2_with fail
  have hb : Below W5.heap.size W5 W5.drew := (Below.refl _ _).drew
  have hB6 := zup hb hB5
  have hP6 := zon hb hP5
  clear hb hB5 hP5
  refine wp_region_held_drew (S := fun V => Holds V W1.heap.size 133 P) (by kernel_rfl) (by exact hP6.out) (fun zH => ?_)
  generalize W5.drew = W6 at *
  refine tkx 0 (.int .i64 (q : Int)) zH ?_; simp only [lp]
  refine tkx 1 (.pointer (some ⟨W1.heap.size, 4, none⟩)) zH ?_; simp only [lp]
  refine tkx 2 (.int .i64 (h : Int)) zH ?_ (hy := .inl ⟨by kernel_rfl, fun V hS => by have cc := (hcell.out _ _ hS).2.2.2.2; go_simp⟩); simp only [lp]
  refine tkx 3 (.int .i64 Z) zH ?_; simp only [lp]
  refine tkx 4 (.bool false) zH ?_; simp only [lp]
  refine tkx 5 (.bool false) zH ?_; simp only [lp]
  refine tkx 6 (.string once) zH ?_; simp only [lp]
  refine tkx 7 (.string o4) zH ?_; simp only [lp]
  refine tkx 8 (.pointer (some ⟨W1.heap.size, 1, none⟩)) zH ?_; simp only [lp]
  refine tkx 9 (.string b) zH ?_ (hy := .inl ⟨by kernel_rfl, fun V hS => by have cc := (hcell.out _ _ hS).2.1; go_simp⟩); simp only [lp]
  refine tkx 10 (.bool false) zH ?_; simp only [lp]
  refine tkx 11 (.bool false) zH ?_; simp only [lp]
  refine tkx 12 (.bool false) zH ?_; simp only [lp]
  refine tkx 13 (.string rest) zH ?_; simp only [lp]
  refine tkx 14 (.string r4) zH ?_; simp only [lp]
  refine tkx 15 (.pointer (some ⟨W1.heap.size, 0, none⟩)) zH ?_; simp only [lp]
  refine tkx 16 (.string a) zH ?_ (hy := .inl ⟨by kernel_rfl, fun V hS => by have cc := (hcell.out _ _ hS).1; go_simp⟩); simp only [lp]
  refine tkx 17 (.bool false) zH ?_; simp only [lp]
  refine tkx 18 (.bool false) zH ?_; simp only [lp]
  refine wpAnyH_done (by kernel_rfl) ?_ _
  obtain ⟨-, -, k2, -, -⟩ := hcell.out _ _ hP6.out
  go_wp2_with fail
  refine (hcd.out _).mono ?_
  rintro e W7 ⟨rfl, hb⟩
  have hP7 := zon hb hP6
  have hB7 := zup hb hB6
  clear hb hP6 hB6 k2
  obtain ⟨-, -, -, -, k4⟩ := hcell.out _ _ (hP7.out)
  clear k4
  go_wp2_with (first
    | ((with_reducible refine at_slot (some 12) ?_); refine wpList_run rfl (.pointer (some ⟨W7.heap.size, 0, none⟩)) (W7.alloc (.cells z32 60)) (by kernel_rfl) ?_)
    | ((with_reducible refine at_slot none ?_); refine wpList_store_mid rfl 60 (.tmp 12) (.tmp 74) rfl W7.heap.size 0 (byteCells y).toArray rfl rfl (by exact hCy.out.there W7) (by exact hCy.out.size) (by exact hCy.out.one) ?_; generalize hW : World.setCells _ _ _ _ = W8; obtain ⟨hN, hb⟩ := hCy.out.new hW; have hP8 := zon hb hP7; have hB8 := zup hb hB7; have hY8 := hid hN; clear hb hP7 hB7 hN; have kk4 := (hcell.out _ _ hP8.out).2.2.2.2; clear hW)
    | fail)
  clear kk4
  have hb : Below W8.heap.size W8 W8.drew := (Below.refl _ _).drew
  have hP9 := zon hb hP8
  have hB9 := zup hb hB8
  have hY9 := zon hb hY8
  clear hb hP8 hB8 hY8
  refine wp_region_held_drew (S := fun V => Holds V W1.heap.size 133 P ∧ Holds V W7.heap.size 60 (byteCells y)) (by kernel_rfl) (by exact ⟨hP9.out, hY9.out⟩) (fun zH => ?_)
  generalize W8.drew = W9 at *
  refine tkx 0 (.pointer (some ⟨W1.heap.size, 2, none⟩)) zH ?_; simp only [lp]
  refine tkx 1 (.string c) zH ?_ (hy := .inl ⟨by kernel_rfl, fun V hS => by have cc := (hcell.out _ _ hS.1).2.2.1; go_simp⟩); simp only [lp]
  refine tkx 2 (.int .i64 (R : Int)) zH ?_; simp only [lp]
  refine tkx 3 (.pointer (some ⟨W1.heap.size, 2, none⟩)) zH ?_; simp only [lp]
  refine tkx 4 (.string c) zH ?_ (hy := .inl ⟨by kernel_rfl, fun V hS => by have cc := (hcell.out _ _ hS.1).2.2.1; go_simp⟩); simp only [lp]
  refine tkx 5 (.int .i64 (R : Int)) zH ?_; simp only [lp]
  refine tkx 6 (.agg (byteCells y).toArray) zH ?_ (hy := yieldsIf_load_mid (by kernel_rfl) _ _ rfl _ _ rfl _ _ (fun V hS => h_all hS.2) Tryz.underlying60 rfl (by exact hCy.out.size')); simp only [lp]
  refine tkx 8 (.string rest) zH ?_; simp only [lp]
  refine tkx 9 (.string rt) zH ?_; simp only [lp]
  refine wpAnyH_ready (rs := [7, 11]) (by kernel_rfl) (by simp) (AllReadyH.cons rfl (fun K hK => ?_) (AllReadyH.cons rfl (fun K hK => ?_) AllReadyH.nil))
  · skip
    have hK' := hid hK
    clear hK
    rw [if_pos (by kernel_rfl)]
    simp only [ly1, ly2, ly3]
    go_simp
    refine (hlf.out _).mono ?_
    rintro e W10 ⟨rfl, hb⟩
    have hP10 := zon hb hP9
    have hB10 := zup hb hB9
    have hY10 := zon hb hY9
    clear hb hP9 hB9 hY9
    refine hK'.out _ _ (by exact ⟨hP10.out, hY10.out⟩) (fun zH => ?_)
    clear hK' K
    refine wpAnyH_ready (rs := [10, 11]) (by kernel_rfl) (by simp) (AllReadyH.cons rfl (fun K hK => ?_) (AllReadyH.cons rfl (fun K hK => ?_) AllReadyH.nil))
    · skip
      have hK' := hid hK
      clear hK
      rw [if_pos (by kernel_rfl)]
      simp only [ly1, ly2, ly3]
      go_simp
      refine (hro.out _).mono ?_
      rintro e W11 ⟨rfl, hb⟩
      have hP11 := zon hb hP10
      have hB11 := zup hb hB10
      have hY11 := zon hb hY10
      clear hb hP10 hB10 hY10
      refine hK'.out _ _ (by exact ⟨hP11.out, hY11.out⟩) (fun zH => ?_)
      clear hK' K
      refine wpAnyH_ready (rs := [11]) (by kernel_rfl) (by simp) (AllReadyH.cons rfl (fun K hK => ?_) AllReadyH.nil)
      have hK' := hid hK
      clear hK
      rw [if_pos (by kernel_rfl)]
      simp only [ly1, ly2, ly3]
      refine wp_run (.pointer (some ⟨W11.heap.size, 0, none⟩)) (W11.alloc (.cells z32 60)) (by kernel_rfl) ?_
      obtain ⟨W12, hWn⟩ : ∃ V, W11.alloc (.cells z32 60) = V := ⟨_, rfl⟩
      have hb : Below W11.heap.size W11 W12 := by rw [← hWn]; exact (Below.refl _ _).alloc (Nat.le_refl _) _
      have hN : Holds W12 W11.heap.size 60 z32.toList := by rw [← hWn]; exact Holds.new _ _ _
      have hg1 : W1.heap.size < W11.heap.size := hP11.out.lt
      have hg2 : W7.heap.size < W11.heap.size := hY11.out.lt
      have hg0 : w.heap.size ≤ W11.heap.size := hB11.out.size
      rw [hWn]
      have hP12 := zon hb hP11
      have hB12 := zup hb hB11
      have hY12 := zon hb hY11
      have hX12 := hid hN
      clear hb hP11 hB11 hY11 hN hWn
      refine hK'.out _ _ (by exact ⟨hP12.out, hY12.out⟩) (fun zH => ?_)
      clear hK' K
      refine wpAnyH_ready (rs := [12]) (by kernel_rfl) (by simp) (AllReadyH.cons rfl (fun K hK => ?_) AllReadyH.nil)
      have hK' := hid hK
      clear hK
      rw [if_pos (by kernel_rfl)]
      simp only [ly1, ly2, ly3]
      refine wp_store_mid _ _ _ rfl W11.heap.size 0 (byteCells rx).toArray rfl rfl (by exact hCx.out.there' hX12.out rfl) (by exact hCx.out.size) (by exact hCx.out.one) ?_
      generalize hXx : World.setCells _ _ _ _ = W13
      have hP13 := hid (holds_far hP12.out (by omega) hXx)
      have hY13 := hid (holds_far hY12.out (by omega) hXx)
      have hX13 := hid (hCx.out.over hX12.out rfl hXx)
      have hB13 := hid (below_put hB12.out (by omega) hXx)
      clear hXx
      refine hK'.out _ _ (by exact ⟨hP13.out, hY13.out⟩) (fun zH => ?_)
      clear hK' K
      refine wpAnyH_done (by kernel_rfl) ?_ _
      go_wp2_with fail
      have hb : Below W13.heap.size W13 W13.drew := (Below.refl _ _).drew
      have hP14 := zon hb hP13
      have hB14 := zup hb hB13
      have hY14 := zon hb hY13
      have hX14 := zon hb hX13
      clear hb hP13 hB13 hY13 hX13
      by_cases hrd : rx = d.data.toList
      · skip
        have e1 : tx.toList = d.toList := by rw [← htx'.out, hrd, Lib.toList_data, Lib.toList_data]; rfl
        refine wp_region_held_drew (S := fun V => Holds V W1.heap.size 133 P ∧ Holds V W11.heap.size 60 (byteCells rx)) (by kernel_rfl) (by exact ⟨hP14.out, hX14.out⟩) (fun zH => ?_)
        generalize W13.drew = W14 at *
        refine tkx 0 (.slice (some ⟨W11.heap.size, 0, none⟩) 32 32) zH ?_; simp only [lp]
        refine tkx 1 (.string tx) zH ?_ (hy := .inl ⟨by kernel_rfl, fun V hS => by have hc := hvx.out V _ hS.2; go_simp⟩); simp only [lp]
        refine tkx 2 (.pointer (some ⟨W1.heap.size, 3, none⟩)) zH ?_; simp only [lp]
        refine tkx 3 (.string d) zH ?_ (hy := .inl ⟨by kernel_rfl, fun V hS => by have cc := (hcell.out _ _ hS.1).2.2.2.1; go_simp⟩); simp only [lp]
        refine tkx 4 (.bool false) zH ?_; simp only [lp]
        refine wpAnyH_done (by kernel_rfl) ?_ _
        go_wp2_with fail
        go_ret
        exact ⟨by rw [← hans'.out, hroot'.out, if_pos hrd]; rfl, hB14.out⟩
      · skip
        have e1 : ¬ tx.toList = d.toList := fun e => hrd (by rw [← htx'.out, Lib.toList_data, Lib.toList_data] at e; exact e)
        refine wp_region_held_drew (S := fun V => Holds V W1.heap.size 133 P ∧ Holds V W11.heap.size 60 (byteCells rx)) (by kernel_rfl) (by exact ⟨hP14.out, hX14.out⟩) (fun zH => ?_)
        generalize W13.drew = W14 at *
        refine tkx 0 (.slice (some ⟨W11.heap.size, 0, none⟩) 32 32) zH ?_; simp only [lp]
        refine tkx 1 (.string tx) zH ?_ (hy := .inl ⟨by kernel_rfl, fun V hS => by have hc := hvx.out V _ hS.2; go_simp⟩); simp only [lp]
        refine tkx 2 (.pointer (some ⟨W1.heap.size, 3, none⟩)) zH ?_; simp only [lp]
        refine tkx 3 (.string d) zH ?_ (hy := .inl ⟨by kernel_rfl, fun V hS => by have cc := (hcell.out _ _ hS.1).2.2.2.1; go_simp⟩); simp only [lp]
        refine tkx 4 (.bool true) zH ?_; simp only [lp]
        refine wpAnyH_done (by kernel_rfl) ?_ _
        go_wp2_with fail
        go_ret
        exact ⟨by rw [← hans'.out, hroot'.out, if_neg hrd]; rfl, hB14.out⟩
    · skip
      have hK' := hid hK
      clear hK
      rw [if_pos (by kernel_rfl)]
      simp only [ly1, ly2, ly3]
      refine wp_run (.pointer (some ⟨W10.heap.size, 0, none⟩)) (W10.alloc (.cells z32 60)) (by kernel_rfl) ?_
      obtain ⟨W11, hWn⟩ : ∃ V, W10.alloc (.cells z32 60) = V := ⟨_, rfl⟩
      have hb : Below W10.heap.size W10 W11 := by rw [← hWn]; exact (Below.refl _ _).alloc (Nat.le_refl _) _
      have hN : Holds W11 W10.heap.size 60 z32.toList := by rw [← hWn]; exact Holds.new _ _ _
      have hg1 : W1.heap.size < W10.heap.size := hP10.out.lt
      have hg2 : W7.heap.size < W10.heap.size := hY10.out.lt
      have hg0 : w.heap.size ≤ W10.heap.size := hB10.out.size
      rw [hWn]
      have hP11 := zon hb hP10
      have hB11 := zup hb hB10
      have hY11 := zon hb hY10
      have hX11 := hid hN
      clear hb hP10 hB10 hY10 hN hWn
      refine hK'.out _ _ (by exact ⟨hP11.out, hY11.out⟩) (fun zH => ?_)
      clear hK' K
      refine wpAnyH_ready (rs := [10]) (by kernel_rfl) (by simp) (AllReadyH.cons rfl (fun K hK => ?_) AllReadyH.nil)
      have hK' := hid hK
      clear hK
      rw [if_pos (by kernel_rfl)]
      simp only [ly1, ly2, ly3]
      go_simp
      refine (hro.out _).mono ?_
      rintro e W12 ⟨rfl, hb⟩
      have hP12 := zon hb hP11
      have hB12 := zup hb hB11
      have hY12 := zon hb hY11
      have hX12 := zon hb hX11
      clear hb hP11 hB11 hY11 hX11
      refine hK'.out _ _ (by exact ⟨hP12.out, hY12.out⟩) (fun zH => ?_)
      clear hK' K
      refine wpAnyH_ready (rs := [12]) (by kernel_rfl) (by simp) (AllReadyH.cons rfl (fun K hK => ?_) AllReadyH.nil)
      have hK' := hid hK
      clear hK
      rw [if_pos (by kernel_rfl)]
      simp only [ly1, ly2, ly3]
      refine wp_store_mid _ _ _ rfl W10.heap.size 0 (byteCells rx).toArray rfl rfl (by exact hCx.out.there' hX12.out rfl) (by exact hCx.out.size) (by exact hCx.out.one) ?_
      generalize hXx : World.setCells _ _ _ _ = W13
      have hP13 := hid (holds_far hP12.out (by omega) hXx)
      have hY13 := hid (holds_far hY12.out (by omega) hXx)
      have hX13 := hid (hCx.out.over hX12.out rfl hXx)
      have hB13 := hid (below_put hB12.out (by omega) hXx)
      clear hXx
      refine hK'.out _ _ (by exact ⟨hP13.out, hY13.out⟩) (fun zH => ?_)
      clear hK' K
      refine wpAnyH_done (by kernel_rfl) ?_ _
      go_wp2_with fail
      have hb : Below W13.heap.size W13 W13.drew := (Below.refl _ _).drew
      have hP14 := zon hb hP13
      have hB14 := zup hb hB13
      have hY14 := zon hb hY13
      have hX14 := zon hb hX13
      clear hb hP13 hB13 hY13 hX13
      by_cases hrd : rx = d.data.toList
      · skip
        have e1 : tx.toList = d.toList := by rw [← htx'.out, hrd, Lib.toList_data, Lib.toList_data]; rfl
        refine wp_region_held_drew (S := fun V => Holds V W1.heap.size 133 P ∧ Holds V W10.heap.size 60 (byteCells rx)) (by kernel_rfl) (by exact ⟨hP14.out, hX14.out⟩) (fun zH => ?_)
        generalize W13.drew = W14 at *
        refine tkx 0 (.slice (some ⟨W10.heap.size, 0, none⟩) 32 32) zH ?_; simp only [lp]
        refine tkx 1 (.string tx) zH ?_ (hy := .inl ⟨by kernel_rfl, fun V hS => by have hc := hvx.out V _ hS.2; go_simp⟩); simp only [lp]
        refine tkx 2 (.pointer (some ⟨W1.heap.size, 3, none⟩)) zH ?_; simp only [lp]
        refine tkx 3 (.string d) zH ?_ (hy := .inl ⟨by kernel_rfl, fun V hS => by have cc := (hcell.out _ _ hS.1).2.2.2.1; go_simp⟩); simp only [lp]
        refine tkx 4 (.bool false) zH ?_; simp only [lp]
        refine wpAnyH_done (by kernel_rfl) ?_ _
        go_wp2_with fail
        go_ret
        exact ⟨by rw [← hans'.out, hroot'.out, if_pos hrd]; rfl, hB14.out⟩
      · skip
        have e1 : ¬ tx.toList = d.toList := fun e => hrd (by rw [← htx'.out, Lib.toList_data, Lib.toList_data] at e; exact e)
        refine wp_region_held_drew (S := fun V => Holds V W1.heap.size 133 P ∧ Holds V W10.heap.size 60 (byteCells rx)) (by kernel_rfl) (by exact ⟨hP14.out, hX14.out⟩) (fun zH => ?_)
        generalize W13.drew = W14 at *
        refine tkx 0 (.slice (some ⟨W10.heap.size, 0, none⟩) 32 32) zH ?_; simp only [lp]
        refine tkx 1 (.string tx) zH ?_ (hy := .inl ⟨by kernel_rfl, fun V hS => by have hc := hvx.out V _ hS.2; go_simp⟩); simp only [lp]
        refine tkx 2 (.pointer (some ⟨W1.heap.size, 3, none⟩)) zH ?_; simp only [lp]
        refine tkx 3 (.string d) zH ?_ (hy := .inl ⟨by kernel_rfl, fun V hS => by have cc := (hcell.out _ _ hS.1).2.2.2.1; go_simp⟩); simp only [lp]
        refine tkx 4 (.bool true) zH ?_; simp only [lp]
        refine wpAnyH_done (by kernel_rfl) ?_ _
        go_wp2_with fail
        go_ret
        exact ⟨by rw [← hans'.out, hroot'.out, if_neg hrd]; rfl, hB14.out⟩
  · skip
    have hK' := hid hK
    clear hK
    rw [if_pos (by kernel_rfl)]
    simp only [ly1, ly2, ly3]
    refine wp_run (.pointer (some ⟨W9.heap.size, 0, none⟩)) (W9.alloc (.cells z32 60)) (by kernel_rfl) ?_
    obtain ⟨W10, hWn⟩ : ∃ V, W9.alloc (.cells z32 60) = V := ⟨_, rfl⟩
    have hb : Below W9.heap.size W9 W10 := by rw [← hWn]; exact (Below.refl _ _).alloc (Nat.le_refl _) _
    have hN : Holds W10 W9.heap.size 60 z32.toList := by rw [← hWn]; exact Holds.new _ _ _
    have hg1 : W1.heap.size < W9.heap.size := hP9.out.lt
    have hg2 : W7.heap.size < W9.heap.size := hY9.out.lt
    have hg0 : w.heap.size ≤ W9.heap.size := hB9.out.size
    rw [hWn]
    have hP10 := zon hb hP9
    have hB10 := zup hb hB9
    have hY10 := zon hb hY9
    have hX10 := hid hN
    clear hb hP9 hB9 hY9 hN hWn
    refine hK'.out _ _ (by exact ⟨hP10.out, hY10.out⟩) (fun zH => ?_)
    clear hK' K
    refine wpAnyH_ready (rs := [7]) (by kernel_rfl) (by simp) (AllReadyH.cons rfl (fun K hK => ?_) AllReadyH.nil)
    have hK' := hid hK
    clear hK
    rw [if_pos (by kernel_rfl)]
    simp only [ly1, ly2, ly3]
    go_simp
    refine (hlf.out _).mono ?_
    rintro e W11 ⟨rfl, hb⟩
    have hP11 := zon hb hP10
    have hB11 := zup hb hB10
    have hY11 := zon hb hY10
    have hX11 := zon hb hX10
    clear hb hP10 hB10 hY10 hX10
    refine hK'.out _ _ (by exact ⟨hP11.out, hY11.out⟩) (fun zH => ?_)
    clear hK' K
    refine wpAnyH_ready (rs := [10]) (by kernel_rfl) (by simp) (AllReadyH.cons rfl (fun K hK => ?_) AllReadyH.nil)
    have hK' := hid hK
    clear hK
    rw [if_pos (by kernel_rfl)]
    simp only [ly1, ly2, ly3]
    go_simp
    refine (hro.out _).mono ?_
    rintro e W12 ⟨rfl, hb⟩
    have hP12 := zon hb hP11
    have hB12 := zup hb hB11
    have hY12 := zon hb hY11
    have hX12 := zon hb hX11
    clear hb hP11 hB11 hY11 hX11
    refine hK'.out _ _ (by exact ⟨hP12.out, hY12.out⟩) (fun zH => ?_)
    clear hK' K
    refine wpAnyH_ready (rs := [12]) (by kernel_rfl) (by simp) (AllReadyH.cons rfl (fun K hK => ?_) AllReadyH.nil)
    have hK' := hid hK
    clear hK
    rw [if_pos (by kernel_rfl)]
    simp only [ly1, ly2, ly3]
    refine wp_store_mid _ _ _ rfl W9.heap.size 0 (byteCells rx).toArray rfl rfl (by exact hCx.out.there' hX12.out rfl) (by exact hCx.out.size) (by exact hCx.out.one) ?_
    generalize hXx : World.setCells _ _ _ _ = W13
    have hP13 := hid (holds_far hP12.out (by omega) hXx)
    have hY13 := hid (holds_far hY12.out (by omega) hXx)
    have hX13 := hid (hCx.out.over hX12.out rfl hXx)
    have hB13 := hid (below_put hB12.out (by omega) hXx)
    clear hXx
    refine hK'.out _ _ (by exact ⟨hP13.out, hY13.out⟩) (fun zH => ?_)
    clear hK' K
    refine wpAnyH_done (by kernel_rfl) ?_ _
    go_wp2_with fail
    have hb : Below W13.heap.size W13 W13.drew := (Below.refl _ _).drew
    have hP14 := zon hb hP13
    have hB14 := zup hb hB13
    have hY14 := zon hb hY13
    have hX14 := zon hb hX13
    clear hb hP13 hB13 hY13 hX13
    by_cases hrd : rx = d.data.toList
    · skip
      have e1 : tx.toList = d.toList := by rw [← htx'.out, hrd, Lib.toList_data, Lib.toList_data]; rfl
      refine wp_region_held_drew (S := fun V => Holds V W1.heap.size 133 P ∧ Holds V W9.heap.size 60 (byteCells rx)) (by kernel_rfl) (by exact ⟨hP14.out, hX14.out⟩) (fun zH => ?_)
      generalize W13.drew = W14 at *
      refine tkx 0 (.slice (some ⟨W9.heap.size, 0, none⟩) 32 32) zH ?_; simp only [lp]
      refine tkx 1 (.string tx) zH ?_ (hy := .inl ⟨by kernel_rfl, fun V hS => by have hc := hvx.out V _ hS.2; go_simp⟩); simp only [lp]
      refine tkx 2 (.pointer (some ⟨W1.heap.size, 3, none⟩)) zH ?_; simp only [lp]
      refine tkx 3 (.string d) zH ?_ (hy := .inl ⟨by kernel_rfl, fun V hS => by have cc := (hcell.out _ _ hS.1).2.2.2.1; go_simp⟩); simp only [lp]
      refine tkx 4 (.bool false) zH ?_; simp only [lp]
      refine wpAnyH_done (by kernel_rfl) ?_ _
      go_wp2_with fail
      go_ret
      exact ⟨by rw [← hans'.out, hroot'.out, if_pos hrd]; rfl, hB14.out⟩
    · skip
      have e1 : ¬ tx.toList = d.toList := fun e => hrd (by rw [← htx'.out, Lib.toList_data, Lib.toList_data] at e; exact e)
      refine wp_region_held_drew (S := fun V => Holds V W1.heap.size 133 P ∧ Holds V W9.heap.size 60 (byteCells rx)) (by kernel_rfl) (by exact ⟨hP14.out, hX14.out⟩) (fun zH => ?_)
      generalize W13.drew = W14 at *
      refine tkx 0 (.slice (some ⟨W9.heap.size, 0, none⟩) 32 32) zH ?_; simp only [lp]
      refine tkx 1 (.string tx) zH ?_ (hy := .inl ⟨by kernel_rfl, fun V hS => by have hc := hvx.out V _ hS.2; go_simp⟩); simp only [lp]
      refine tkx 2 (.pointer (some ⟨W1.heap.size, 3, none⟩)) zH ?_; simp only [lp]
      refine tkx 3 (.string d) zH ?_ (hy := .inl ⟨by kernel_rfl, fun V hS => by have cc := (hcell.out _ _ hS.1).2.2.2.1; go_simp⟩); simp only [lp]
      refine tkx 4 (.bool true) zH ?_; simp only [lp]
      refine wpAnyH_done (by kernel_rfl) ?_ _
      go_wp2_with fail
      go_ret
      exact ⟨by rw [← hans'.out, hroot'.out, if_neg hrd]; rfl, hB14.out⟩

/-- What a check answers, whatever is given. -/
theorem par_p {k : Int} {p : Ots.Par} (h : Ots.par k = some p) : p.p ≤ 67 := by
  rcases Ots.par_kind h with ⟨-, rfl⟩ | ⟨-, rfl⟩ <;> decide
theorem hgt_some {t h : Nat} (e : Lms.heightOf t = some h) : hgt t = h ∧ hgtIs t = true ∧ 1 ≤ h ∧ h ≤ 5 := by
  unfold hgt hgtIs
  rw [e]
  refine ⟨rfl, rfl, ?_⟩
  unfold Lms.heightOf at e
  split at e
  · injection e with e; omega
  · split at e
    · injection e with e; omega
    · cases e
/-- The same of what is a signature by its form. -/
theorem Verify_form (pb msg s : ByteArray) (hmm : msg.size ≤ 140737488351232) (hne : Lms.verify pb.data.toList msg.data.toList s.data.toList ≠ 500) (w : World) : Calls Tryz.prog 50 #[.string pb, .string msg, .string s] w fun e w' => e = .returned (.int .i64 (Lms.verify pb.data.toList msg.data.toList s.data.toList)) ∧ Below w.heap.size w w' := by
  by_cases h56 : pb.size = 56
  · obtain ⟨a, ha⟩ : ∃ x, pb.extract 0 4 = x := ⟨_, rfl⟩
    obtain ⟨b, hb⟩ : ∃ x, pb.extract 4 8 = x := ⟨_, rfl⟩
    obtain ⟨c, hc⟩ : ∃ x, pb.extract 8 24 = x := ⟨_, rfl⟩
    obtain ⟨d, hd⟩ : ∃ x, pb.extract 24 pb.size = x := ⟨_, rfl⟩
    have la : pb.data.toList.take 4 = a.data.toList := by rw [← ha, cut_list]
    have lb : (pb.data.toList.drop 4).take 4 = b.data.toList := by rw [← hb]; exact (cut_take pb 4 4 (by omega)).symm
    have lc : (pb.data.toList.drop 8).take 16 = c.data.toList := by rw [← hc]; exact (cut_take pb 8 16 (by omega)).symm
    have ld : pb.data.toList.drop 24 = d.data.toList := by rw [← hd]; exact (cut_front pb 24 (by omega)).symm
    have hv : Lms.verify pb.data.toList msg.data.toList s.data.toList = match Lms.heightOf (numL a.data.toList), Ots.par (numL b.data.toList : Int) with
        | some h, some o => if Lms.formOk o h pb.data.toList msg.data.toList s.data.toList then (if rootOk o h c msg s = d.data.toList then 0 else 502) else 500
        | _, _ => 500 := by
      unfold Lms.verify rootOk
      rw [if_pos (by rw [data_length]; exact h56), la, lb, lc, ld]
      cases Lms.heightOf (numL a.data.toList) <;> cases Ots.par (numL b.data.toList : Int) <;> rfl
    cases hp : Ots.par (numL b.data.toList : Int) with
    | none =>
      refine absurd ?_ hne
      rw [hv, hp]
      split <;> simp_all
    | some p =>
      have hz := fun W => parse_good pb h56 a b c d ha hb hc hd (parC p) true (by unfold parAns; rw [hp]) rfl (by simp [parC, Value.oneCell']) W
      rw [Bool.and_true] at hz
      cases hh : Lms.heightOf (numL a.data.toList) with
      | none => exact absurd (by rw [hv, hp, hh]) hne
      | some h =>
        obtain ⟨e0, e1, h1, h5⟩ := hgt_some hh
        rw [e1, e0] at hz
        have hp67 := par_p hp
        rw [hp, hh] at hv
        dsimp only at hv
        by_cases hf : Lms.formOk p h pb.data.toList msg.data.toList s.data.toList
        · have hs : s.size = 44 + 32 * p.p + 32 * h := by have := hf.1; rw [data_length] at this; exact this
          have f1 : (s.data.toList.take 4) = (s.extract 0 4).data.toList := (cut_list s 4).symm
          have f2 : (s.data.toList.drop 4).take 4 = ((s.extract 4 (40 + 32 * p.p)).extract 0 4).data.toList := by
            rw [cut_list, show 40 + 32 * p.p = 4 + (36 + 32 * p.p) from by omega, cut_take s 4 _ (by omega), List.take_take]
            congr 1
            omega
          have f3 : (s.data.toList.drop (40 + 32 * p.p)).take 4 = ((s.extract (40 + 32 * p.p) s.size).extract 0 4).data.toList := by
            rw [cut_list, cut_front s _ (by omega)]
          have hform : Lms.formOk p h pb.data.toList msg.data.toList s.data.toList ↔ (msg.size ≤ 65536 ∧ numL (s.extract 0 4).data.toList < 2 ^ h ∧ (s.extract 4 (40 + 32 * p.p)).extract 0 4 = b ∧ (s.extract (40 + 32 * p.p) s.size).extract 0 4 = a) := by
            unfold Lms.formOk
            rw [data_length, data_length, f1, f2, f3, lb, la]
            constructor
            · rintro ⟨-, g2, g3, g4, g5⟩
              exact ⟨g2, g3, bytes_ext g4, bytes_ext g5⟩
            · rintro ⟨g2, g3, g4, g5⟩
              exact ⟨hs, g2, g3, by rw [g4], by rw [g5]⟩
          obtain ⟨x4, x1, x2, x3⟩ := hform.1 hf
          rw [hv, if_pos hf]
          exact Verify_good pb msg s a b c d p h _ rfl hp67 h5 hz hs x1 x2 x3 hmm hp h1 (by rw [← hc, ByteArray.size_extract]; omega) x4 _ rfl w
        · exact absurd (by rw [hv, if_neg hf]) hne
  · refine absurd ?_ hne
    unfold Lms.verify
    rw [if_neg (by rw [data_length]; exact h56)]

end Go.Proofs.YtmfajekfipfjpaaGreat
