/- Layer 13: the reference's Find, SetDir, RemoveDir.
   'append(x, a struct)', both operations at once: what becomes of the row, what stays. No function of the program is named here.
   Layer 13: the reference's SetDir, RemoveDir.
   Layer 13: the reference's RemoveDir. -/
import Derived.Test.YtapegklffglnoaaDirJ
import Derived.Test.YtapegklffglnoaaLoadOn
namespace Go.Proofs.Ytapegklffglnoaa
open Go.RowKit

theorem rfind_results (tmps : Array Value) (w : World) (b : Nat) (cs : Array Value) (k : Bool) (hp : tmps.getD 4 undef = .pointer (some ⟨b, 0, none⟩)) (hk : tmps.getD 5 undef = .bool k)
    (hg : w.heap[b]? = some (.cells cs 38 (0, 0))) (hl : cs.size = 2) : (results Try.f31 tmps).run Try.prog w = .ok (.tuple #[.agg cs, .bool k]) w := by
  have hp' : tmps[4]?.getD undef = .pointer (some ⟨b, 0, none⟩) := by simpa using hp
  have hk' : tmps[5]?.getD undef = .bool k := by simpa using hk
  have hlv := run_loadVar_row (P := Try.prog) w b 38 38 cs (0, 0) _ hg Try.underlying38 rfl (by rw [Try.infoRef, hl])
  simp [results, Try.results31, hp', hk', asAddr, hlv]

theorem ref_put {w W : World} {q : Nat} {o n o' n' : Int} (h : Holds W q 38 [.int .i64 o, .int .i64 n]) (hb : Below w.heap.size w W) (hq : w.heap.size ≤ q) :
    ∃ V, W.setCells q 0 [.int .i64 o', .int .i64 n'] = V ∧ Holds V q 38 [.int .i64 o', .int .i64 n'] ∧ Below w.heap.size w V ∧ W.there q 0 2 := by
  refine ⟨_, rfl, ?_, below_setCells hb _ _ _ hq, h.there 0 2 (by simp)⟩
  have h1 := h.put 0 [.int .i64 o', .int .i64 n'] (by simp)
  exact h1

set_option maxRecDepth 100000 in
set_option maxHeartbeats 4000000 in
theorem rFind_any (A : Option Addr) (n c B : Nat) (xs : List Ent) (k : ByteArray) (w : World) (h : Ents w B A n xs) (hB : B ≤ w.heap.size) (hn : n ≤ 10000000000000) :
    Calls Try.prog 31 #[.slice A n c, .string k] w (FindPost (findE xs k) w) := by
  obtain ⟨R, hR⟩ : ∃ R, findE xs k = R := ⟨_, rfl⟩
  rw [hR]
  have hR' := hid hR
  have h' := hid (h.more hB)
  have hlen := h.1
  obtain ⟨q, hq⟩ : ∃ q, w.heap.size = q := ⟨_, rfl⟩
  obtain ⟨W0, hW0⟩ : ∃ W0, w.alloc (.cells #[.int .i64 0, .int .i64 0] 38) = W0 := ⟨_, rfl⟩
  have hH0 : Holds W0 q 38 [.int .i64 0, .int .i64 0] := by rw [← hW0, ← hq]; exact Holds.new _ _ _
  have hB0 : Below w.heap.size w W0 := by rw [← hW0]; exact (Below.refl _ _).alloc (Nat.le_refl _) _
  have hH0' := hid hH0
  have hB0' := hid hB0
  have hW0' := hid hW0
  have hq' := hid hq
  have hqe : w.heap.size ≤ q := by omega
  clear hR h hH0 hB0 hW0 hq
  go_enter Try.func31, Try.ntmps31
  go_wp2_with (first
    | ((with_reducible refine at_slot (some 4) ?_); refine wpList_run rfl (.pointer (some ⟨w.heap.size, 0, none⟩)) (w.alloc (.cells #[.int .i64 0, .int .i64 0] 38)) (by kernel_rfl) ?_; rw [hW0'.out, hq'.out])
    | fail)
  go_loopw [6] (fun i wr => ∃ j : Nat, j ≤ n ∧ i = .int .i64 (j : Int) ∧ Below w.heap.size w wr ∧ Holds wr q 38 [.int .i64 0, .int .i64 0] ∧ ∀ t y, t < j → xs[t]? = some y → (y.name.toList == k.toList) = false) (fun i _ => n - (intOf i).toNat)
  case atStart => exact ⟨0, Nat.zero_le _, rfl, hB0'.out, hH0'.out, fun t y ht _ => by omega⟩
  case round =>
    obtain ⟨j, hj, rfl, hBr, hHr, hno⟩ := hrel
    have hno' := hid hno
    have hBr' := hid hBr
    have hHr' := hid hHr
    clear hno hHr
    by_cases hlt : j < n
    · have hS := h'.out.below hBr
      obtain ⟨p, a, hpA, hpB, ha, hfa, hca⟩ := hS.get (k := j) hlt
      subst hpA
      have hlt' : (j : Int) < (n : Int) := by omega
      have c0 := (hS.at3 ha).1
      have href := hid (hS.ref_at ha)
      have ha' := hid ha
      have s3 : (0 : Int) ≤ (j : Int) := by omega
      have hkw := IntWalk.i64_in ((j : Int) + 1) (by omega)
      clear hBr hca ha hS
      cases hk : a.name.toList == k.toList with
      | false =>
        have hno2 := hid (show ∀ t y, t < j + 1 → xs[t]? = some y → (y.name.toList == k.toList) = false from fun t y ht hy => by
          by_cases e : t < j
          · exact hno'.out t y e hy
          · have e1 : t = j := by omega
            subst e1
            rw [ha'.out] at hy
            rw [← Option.some.inj hy]
            exact hk)
        go_wp2_with fail
        go_roundw
        case rel => exact ⟨j + 1, by omega, by go_num, hBr'.out, hHr'.out, hno2.out⟩
        case measure => simp [intOf]; omega
      | true =>
        have hfin := hid (show R = some a from by rw [← hR'.out]; exact find_next hno'.out ha'.out hk)
        obtain ⟨W3, hW3, hH3, hB3, hth⟩ := ref_put (o' := a.owner) (n' := a.num) hHr'.out hBr'.out hqe
        have hW3' := hid hW3
        have hH3' := hid hH3
        have hB3' := hid hB3
        have hth' := hid hth
        clear hW3 hH3 hB3 hth
        go_wp2_with (first
          | ((with_reducible refine at_slot (some 24) ?_); refine wpList_load_any rfl _ _ rfl _ rfl [.int .i64 a.owner, .int .i64 a.num] _ (by exact href.out) Try.underlying38 rfl Try.infoRef ?_)
          | ((with_reducible refine at_slot none ?_); refine wpList_store_mid rfl 38 (.tmp 4) (.tmp 24) rfl q 0 #[.int .i64 a.owner, .int .i64 a.num] rfl rfl (by exact hth'.out) (by exact Try.infoRef) (by kernel_rfl) ?_; rw [hW3'.out])
          | fail)
        exact bodyPost_ret (v := .tuple #[.agg #[.int .i64 a.owner, .int .i64 a.num], .bool true]) (rfind_results _ _ q _ true rfl rfl hH3'.out rfl) rfl ⟨by rw [hfin.out]; rfl, hB3'.out⟩
    · have hlt' : ¬ (j : Int) < (n : Int) := by omega
      have hfin := hid (show R = none from by rw [← hR'.out]; exact find_none fun t y ht hy => hno'.out t y (by omega) hy)
      obtain ⟨W3, hW3, hH3, hB3, hth⟩ := ref_put (o' := 0) (n' := 0) hHr'.out hBr'.out hqe
      have hW3' := hid hW3
      have hH3' := hid hH3
      have hB3' := hid hB3
      have hth' := hid hth
      clear hW3 hH3 hB3 hth hBr
      go_wp2_with (first
        | ((with_reducible refine at_slot none ?_); refine wpList_store_mid rfl 38 (.tmp 4) (.tmp 25) rfl q 0 #[.int .i64 0, .int .i64 0] rfl rfl (by exact hth'.out) (by exact Try.infoRef) (by kernel_rfl) ?_; rw [hW3'.out])
        | fail)
      exact bodyPost_ret (v := .tuple #[.agg #[.int .i64 0, .int .i64 0], .bool false]) (rfind_results _ _ q _ false rfl rfl hH3'.out rfl) rfl ⟨by rw [hfin.out]; rfl, hB3'.out⟩

end Go.Proofs.Ytapegklffglnoaa
namespace Go.Proofs.Ytapegklffglnoaa
open Go.RowKit

theorem at_holds {w : World} {g B sz n : Nat} {t : TypeId} {cs : List Value} (h : Holds w g t cs) (hl : cs.length = n * sz) (hB : g < B) : At w B sz (some ⟨g, 0, none⟩) n cs := by
  refine ⟨hl, .inr ⟨_, rfl, hB, fun j hj => ?_⟩⟩
  rw [show (⟨g, 0, none⟩ : Addr).add j = ⟨g, j, none⟩ from by unfold Addr.add; split <;> simp_all, h.cell]
  exact List.getElem?_eq_getElem hj
theorem own_stays {w w' : World} {n0 c k sz : Nat} {A : Option Addr} {t : TypeId} {cs : List Value} (h : w.ownsRow n0 t sz (.slice A k c) k cs) (hb : Below w.heap.size w w') : w'.ownsRow n0 t sz (.slice A k c) k cs := by
  have hlt := h.lt
  obtain ⟨h1, h2 | ⟨g, cap, cur, hv, hB, hh, rest⟩⟩ := h
  · exact ⟨h1, .inl h2⟩
  · refine ⟨h1, .inr ⟨g, cap, cur, hv, hB, ?_, rest⟩⟩
    rw [hb.block g (hlt g (by rw [hv]; rfl)).2]
    exact hh
/-- A block of another type is not the row's own. -/
theorem own_apart {w : World} {n0 c k sz q : Nat} {A : Option Addr} {t t' : TypeId} {cs cs' : List Value} (h : w.ownsRow n0 t sz (.slice A k c) k cs) (hq : Holds w q t' cs') (ht : t' ≠ t) : (Value.slice A k c).ownBlock ≠ some q := by
  intro e
  obtain ⟨h1, ⟨hv, _⟩ | ⟨g, cap, cur, hv, hB, hh, rest⟩⟩ := h
  · rw [hv] at e; cases e
  · rw [hv] at e
    have e1 : g = q := Option.some.inj e
    subst e1
    unfold Holds at hq
    rw [hh] at hq
    have := Option.some.inj hq
    injection this with e2 e3
    exact ht e3.symm

section
variable {P : Program} {ops : Array Oper} {a : Act} {w : World} {Q : Exit → Act → World → Prop}
theorem wpList_pushOne {rest : List Oper} {o1 o2 : Oper} (hg1 : o1.guard = none) (hg2 : o2.guard = none) (t e : TypeId) (x s y : Operand) (ho1 : o1.op = .buildSlice t 1 #[(0, x)]) (ho2 : o2.op = .call { callee := .builtin .append, args := #[s, y], argTypes := #[t, t] })
    (B : Nat) (i : TypeInfo) (z : Value) (sz bytes : Nat) (ht : P.underlying t = some (.slice e)) (hi : P.info? e = some i) (hz : i.zero = some z) (hsize : i.size = sz) (hby : i.bytes = bytes) (hzs : z.cells.size = sz) (hsz : 0 < sz) (hsz2 : sz ≤ 1000000)
    (A : Option Addr) (n c : Nat) (cs C : List Value) (hx : a.eval x = .agg C.toArray) (hC : C.length = sz) (hs : (a.put o1.dst (.slice (some ⟨w.heap.size, 0, none⟩) 1 1)).eval s = .slice A n c) (hy : (a.put o1.dst (.slice (some ⟨w.heap.size, 0, none⟩) 1 1)).eval y = .slice (some ⟨w.heap.size, 0, none⟩) 1 1) (hu : ∀ u ∈ C, u.oneCell' = true)
    (h63 : n + 1 ≤ 1000000000000000) (hbytes : (n + 1) * bytes ≤ 140737488355328) (hown : w.ownsRow B e sz (.slice A n c) n cs) (hB : B ≤ w.heap.size)
    (h : ∀ A2 c2 w', w'.ownsRow B e sz (.slice A2 (n + 1) c2) (n + 1) (cs ++ C) → Below B w w' → (∀ q t' cs', Holds w q t' cs' → t' ≠ e → Holds w' q t' cs') → wpList P ops Q rest ((a.put o1.dst (.slice (some ⟨w.heap.size, 0, none⟩) 1 1)).put o2.dst (.slice A2 (n + 1) c2)) w') :
    wpList P ops Q (o1 :: o2 :: rest) a w := by
  refine wpList_buildSlice_one hg1 t e x ho1 i z ht hi hz C.toArray hx (by rw [hsize, List.size_toArray, hC]) (by rw [List.size_toArray, hC]; exact hsz) (by rw [List.size_toArray, hC]; exact hsz2) ?_
  have hb1 : Below w.heap.size w (w.alloc (.cells C.toArray e)) := (Below.refl _ _).alloc (Nat.le_refl _) _
  have hown1 := own_stays hown hb1
  have hH := Holds.new w e C.toArray
  refine wpList_appends hg2 s y t e ho2 B i z sz bytes ht hi hz hsize hby hzs hsz A n c cs (w.alloc (.cells C.toArray e)).heap.size (some ⟨w.heap.size, 0, none⟩) 1 1 C hs hy (fun h => by cases h) hu h63 hbytes hown1 (at_holds hH (by simpa using hC) (by simp)) (Nat.le_trans hB hb1.size) ?_
  intro A2 c2 w' hrow hb hg
  exact h A2 c2 w' hrow ((hb1.mono hB).trans hb) fun q t' cs' hq hne => (hq.below hb1 hq.lt).grown hg (own_apart hown1 (hq.below hb1 hq.lt) hne).symm
end

end Go.Proofs.Ytapegklffglnoaa
namespace Go.Proofs.Ytapegklffglnoaa
open Go.RowKit

theorem Ents.cells_at {w : World} {B n k : Nat} {p : Addr} {xs : List Ent} {a : Ent} (h : Ents w B (some p) n xs) (ha : xs[k]? = some a) : ∀ j v, a.cells[j]? = some v → w.cell? ((p.add (k * 3)).add j) = some v := by
  have hk : k < xs.length := (List.getElem?_eq_some_iff.1 ha).1
  have hk2 : k < n := by have := h.1; omega
  obtain ⟨p', a', hp, -, ha', -, hc⟩ := h.get hk2
  obtain rfl : p = p' := Option.some.inj hp
  obtain rfl : a = a' := Option.some.inj (ha.symm.trans ha')
  exact hc

/-- What has been written of the new directory behind i entries. -/
def outE (xs : List Ent) (x : Ent) (i : Nat) : List Ent := if i ≤ lowE xs x.name then xs.take i else xs.take (lowE xs x.name) ++ [x] ++ (xs.take i).drop (lowE xs x.name + if hasE xs x.name then 1 else 0)
theorem outE_before {xs : List Ent} {x : Ent} {i : Nat} {a : Ent} (hi : i < lowE xs x.name) (ha : xs[i]? = some a) : outE xs x (i + 1) = outE xs x i ++ [a] := by
  unfold outE
  rw [if_pos (by omega), if_pos (by omega), List.take_add_one, ha]
  rfl
theorem outE_here {xs : List Ent} {x a : Ent} (ha : xs[lowE xs x.name]? = some a) : outE xs x (lowE xs x.name + 1) = if hasE xs x.name then outE xs x (lowE xs x.name) ++ [x] else outE xs x (lowE xs x.name) ++ [x] ++ [a] := by
  have hl := (List.getElem?_eq_some_iff.1 ha).1
  unfold outE
  rw [if_neg (by omega), if_pos (Nat.le_refl _)]
  cases hasE xs x.name with
  | true =>
    rw [if_pos rfl, if_pos rfl, List.drop_eq_nil_of_le (by rw [List.length_take]; omega), List.append_nil]
  | false =>
    rw [if_neg (by decide), if_neg (by decide), List.take_add_one, ha, Nat.add_zero, List.drop_append_of_le_length (by rw [List.length_take]; omega), List.drop_eq_nil_of_le (by rw [List.length_take]; omega)]
    rfl
theorem outE_behind {xs : List Ent} {x a : Ent} {i : Nat} (hi : lowE xs x.name < i) (ha : xs[i]? = some a) : outE xs x (i + 1) = outE xs x i ++ [a] := by
  have hl := (List.getElem?_eq_some_iff.1 ha).1
  unfold outE
  obtain ⟨M, hM⟩ : ∃ M, lowE xs x.name + (if hasE xs x.name then 1 else 0) = M := ⟨_, rfl⟩
  have hMi : M ≤ i := by rw [← hM]; split <;> omega
  rw [hM, if_neg (show ¬ i + 1 ≤ lowE xs x.name by omega), if_neg (show ¬ i ≤ lowE xs x.name by omega), List.take_add_one, ha, List.drop_append_of_le_length (by rw [List.length_take]; omega)]
  simp
theorem outE_len (xs : List Ent) (x : Ent) (i : Nat) : (outE xs x i).length ≤ i + 1 := by
  unfold outE
  obtain ⟨M, hM⟩ : ∃ M, lowE xs x.name + (if hasE xs x.name then 1 else 0) = M := ⟨_, rfl⟩
  have hMi : lowE xs x.name ≤ M := by rw [← hM]; exact Nat.le_add_right _ _
  rw [hM]
  split
  · rw [List.length_take]; omega
  · rw [List.length_append, List.length_append, List.length_take, List.length_drop, List.length_take, List.length_singleton]
    omega
theorem outE_end {xs : List Ent} {x : Ent} : (if lowE xs x.name < xs.length then outE xs x xs.length else outE xs x xs.length ++ [x]) = withE xs x := by
  unfold outE withE
  by_cases h : lowE xs x.name < xs.length
  · rw [if_pos h, if_neg (by omega), List.take_length]
  · have hl := low_le xs x.name
    have e : lowE xs x.name = xs.length := by omega
    rw [if_neg h, if_pos (by omega), e, List.take_length]
    rw [List.drop_eq_nil_of_le (by omega), List.append_nil]

theorem name_ne {a b : ByteArray} (h : lessB a b = true) : (a.toList == b.toList) = false := by
  rw [beq_eq_false_iff_ne]
  intro e
  have h1 : Op.bytesLess a.toList b.toList = true := h
  rw [e, less_irr] at h1
  cases h1
theorem name_ne' {a b : ByteArray} (h : lessB b a = true) : (a.toList == b.toList) = false := by
  rw [beq_eq_false_iff_ne]
  intro e
  have h1 : Op.bytesLess b.toList a.toList = true := h
  rw [e, less_irr] at h1
  cases h1
theorem here_eq {xs : List Ent} {k : ByteArray} {a : Ent} (ha : xs[lowE xs k]? = some a) : (a.name.toList == k.toList) = hasE xs k := by
  unfold hasE
  rw [ha, Bool.eq_iff_iff, beq_iff_eq]
  dsimp only
  rw [decide_eq_true_iff, cmpI_zero]
  exact ⟨bytes_same, fun e => by rw [e]⟩
theorem behind_less {xs : List Ent} {k : ByteArray} {a : Ent} {i : Nat} (hr : RisesE xs.length xs) (hi : lowE xs k < i) (ha : xs[i]? = some a) : lessB k a.name = true := by
  have hl := (List.getElem?_eq_some_iff.1 ha).1
  obtain ⟨b, hb⟩ : ∃ b, xs[lowE xs k]? = some b := ⟨_, List.getElem?_eq_getElem (by omega)⟩
  have h1 := low_at hb
  have h2 := rises_up hr hi hb ha
  rcases less_or b.name.toList k.toList with h3 | h3 | h3
  · rw [show lessB b.name k = true from h3] at h1; cases h1
  · unfold lessB at h2 ⊢
    rw [← h3]
    exact h2
  · exact less_trans _ _ _ h3 h2

set_option maxRecDepth 100000 in
set_option maxHeartbeats 16000000 in
theorem rSet_any (A : Option Addr) (n c B : Nat) (xs : List Ent) (x : Ent) (w : World) (h : Ents w B A n xs) (hB : B ≤ w.heap.size) (hn : n ≤ 10000000000000) (hx : x.name.size ≤ maxLen) (R : List Ent) (y : Int) (hs : setS xs x = (R, y)) :
    Calls Try.prog 27 #[.slice A n c, .string x.name, .agg #[.int .i64 x.owner, .int .i64 x.num]] w (SetPost R y w) := by
  obtain ⟨i0, hi, hz0, hz1, hz2⟩ := info_parts Try.infoEntI
  obtain ⟨q, hq⟩ : ∃ q, w.heap.size = q := ⟨_, rfl⟩
  obtain ⟨W0, hW0⟩ : ∃ W0, w.alloc (.cells #[.int .i64 x.owner, .int .i64 x.num] 38) = W0 := ⟨_, rfl⟩
  have hB0 : Below w.heap.size w W0 := by rw [← hW0]; exact (Below.refl _ _).alloc (Nat.le_refl _) _
  have hH0 : Holds W0 q 38 [.int .i64 x.owner, .int .i64 x.num] := by rw [← hW0, ← hq]; exact Holds.new _ _ _
  have hlen := h.1
  have h' := hid (h.more hB)
  have hcl := hid (fun (W : World) (hH : Holds W q 38 [.int .i64 x.owner, .int .i64 x.num]) => show W.cell? ⟨q, 0, none⟩ = some (.int .i64 x.owner) ∧ W.cell? ⟨q, 1, none⟩ = some (.int .i64 x.num) from by
    refine ⟨?_, ?_⟩ <;> rw [hH.cell] <;> rfl)
  have hMay := hid (fun (W : World) (hW : Below w.heap.size w W) => rDirMay_any A n c B xs W (h.below (hW.mono hB)) (Nat.le_trans hB hW.size) hn)
  have hName := hid (fun W => show Calls Try.prog 18 #[.string x.name] W fun e w' => e = .returned (.bool (Pth.nameOk x.name.data.toList)) ∧ W = w' from refNameMay_any x.name W hx)
  have hRef := hid (fun W => rRefMay_any x.owner x.num W)
  obtain ⟨d, hd⟩ : ∃ d, dirB xs = d := ⟨_, rfl⟩
  obtain ⟨m, hm⟩ : ∃ m, Pth.nameOk x.name.data.toList = m := ⟨_, rfl⟩
  obtain ⟨r, hr⟩ : ∃ r, refB x.owner x.num = r := ⟨_, rfl⟩
  obtain ⟨Z, hZ⟩ : ∃ Z, withE xs x = Z := ⟨_, rfl⟩
  have hs2 : (if d && (m && r) && decide (Z.length ≤ 32) then (Z, (0 : Int)) else ([], 1300)) = (R, y) := by
    rw [← hs, ← hd, ← hm, ← hr, ← hZ]
    rfl
  have hdir := hid (show d = true → Dir xs from fun e => dirB_of (hd.trans e))
  rw [hd] at hMay
  rw [hm] at hName
  rw [hr] at hRef
  have hs' := hid hs2
  have hB0' := hid hB0
  have hH0' := hid hH0
  have hW0' := hid hW0
  have hq' := hid hq
  have hZ' := hid hZ
  obtain ⟨c0, c1⟩ := hcl.out W0 hH0
  clear hs hs2 hd hm hr hZ hB0 hH0 hW0 hq h
  go_enter Try.func27, Try.ntmps27
  go_wp2_with (first
    | ((with_reducible refine at_slot (some 5) ?_); refine wpList_run rfl (.pointer (some ⟨w.heap.size, 0, none⟩)) (w.alloc (.cells #[.int .i64 x.owner, .int .i64 x.num] 38)) (by kernel_rfl) ?_; rw [hW0'.out, hq'.out])
    | fail)
  refine (hMay.out W0 hB0'.out).mono ?_
  rintro e W1 ⟨rfl, hb1⟩
  have hB1 := hid (hB0'.out.trans (hb1.mono hB0'.out.size))
  have hH1 := hid (hH0'.out.below hb1 hH0'.out.lt)
  clear hb1 c0 c1
  cases d with
  | false =>
    obtain ⟨rfl, rfl⟩ := Prod.mk.inj (show (([] : List Ent), (1300 : Int)) = (R, y) from hs'.out)
    go_wp2_with fail
    go_ret2
    exact SetPost.nil hB1.out
  | true =>
    go_wp2_with fail
    refine (hName.out W1).mono ?_
    rintro e W2 ⟨rfl, rfl⟩
    cases m with
    | false =>
      obtain ⟨rfl, rfl⟩ := Prod.mk.inj (show (([] : List Ent), (1300 : Int)) = (R, y) from hs'.out)
      go_wp2_with fail
      go_ret2
      exact SetPost.nil hB1.out
    | true =>
      obtain ⟨c0, c1⟩ := hcl.out W1 hH1.out
      go_wp2_with fail
      refine (hRef.out W1).mono ?_
      rintro e W3 ⟨rfl, hb3⟩
      have hB3 := hid (hB1.out.trans (hb3.mono hB1.out.size))
      have hH3 := hid (hH1.out.below hb3 hH1.out.lt)
      clear hb3 c0 c1
      cases r with
      | false =>
        obtain ⟨rfl, rfl⟩ := Prod.mk.inj (show (([] : List Ent), (1300 : Int)) = (R, y) from hs'.out)
        go_wp2_with fail
        go_ret2
        exact SetPost.nil hB3.out
      | true =>
        have hs3 : (if decide (Z.length ≤ 32) then (Z, (0 : Int)) else ([], 1300)) = (R, y) := hs'.out
        have hD := hdir.out (by first | rfl | trivial)
        have hn32 : n ≤ 32 := by have := hD.1; omega
        have hrise := hid hD.2.2
        have hs3' := hid hs3
        obtain ⟨L, hL⟩ : ∃ L, lowE xs x.name = L := ⟨_, rfl⟩
        have hL' := hid hL
        have hLn : L ≤ n := by rw [← hL, ← hlen]; exact low_le _ _
        clear hs3 hD hL
        go_wp2_with fail
        go_loopw [8, 9, 10] (fun o f i wr => ∃ (j : Nat) (A1 : Option Addr) (c1 : Nat), j ≤ n ∧ i = .int .i64 (j : Int) ∧ f = .bool (decide (L < j)) ∧ o = .slice A1 (outE xs x j).length c1 ∧ wr.ownsRow w.heap.size 60 3 (.slice A1 (outE xs x j).length c1) (outE xs x j).length (entCells (outE xs x j)) ∧ Holds wr q 38 [.int .i64 x.owner, .int .i64 x.num] ∧ Below w.heap.size w wr ∧ (outE xs x j).length ≤ j + 1) (fun _ _ i _ => n - (intOf i).toNat)
        case atStart =>
          have e0 : outE xs x 0 = [] := by unfold outE; rw [if_pos (Nat.zero_le _)]; rfl
          refine ⟨0, none, 0, Nat.zero_le _, rfl, by rw [decide_eq_false (by omega)], by rw [e0]; rfl, by rw [e0]; exact World.ownsRow_nil _ _ _ _, hH3.out, hB3.out, by rw [e0]; exact Nat.zero_le _⟩
        case round =>
          obtain ⟨j, A1, c1, hj, rfl, rfl, rfl, hown, hHr, hBr, hol⟩ := hrel
          have hown' := hid hown
          have hHr' := hid hHr
          have hBr' := hid hBr
          clear hown
          by_cases hlt : j < n
          · have hS := h'.out.below hBr
            obtain ⟨p, a, hpA, hpB, ha, hfa, hca⟩ := hS.get (k := j) hlt
            subst hpA
            have hlt' : (j : Int) < (n : Int) := by omega
            have c0 := (hS.at3 ha).1
            have hca' := hid hca
            have ha' := hid ha
            have s3 : (0 : Int) ≤ (j : Int) := by omega
            have hkw := IntWalk.i64_in ((j : Int) + 1) (by omega)
            clear hca ha hS
            by_cases hjL : j = L
            · -- here
              subst hjL
              obtain ⟨F, hF⟩ : ∃ F, hasE xs x.name = F := ⟨_, rfl⟩
              have haL : xs[lowE xs x.name]? = some a := by rw [hL'.out]; exact ha'.out
              have hdl : decide (j < j) = false := decide_eq_false (by omega)
              have hge : Op.bytesLess a.name.toList x.name.toList = false := low_at haL
              have hne : (a.name.toList == x.name.toList) = F := by rw [← hF]; exact here_eq haL
              have hnx := outE_here haL
              rw [hF, hL'.out] at hnx
              have hdn : decide (j < j + 1) = true := decide_eq_true (by omega)
              have hnx' := hid hnx
              obtain ⟨O, hO⟩ : ∃ O, outE xs x j = O := ⟨_, rfl⟩
              have hO' := hid hO
              have hown2 := hown'.out
              rw [hO] at hown2 hol
              have hown2' := hid hown2
              have hdn' := hid hdn
              obtain ⟨r0, r1⟩ := hcl.out wr hHr
              rw [hO, hdl]
              clear hO hnx haL hF hown2 hown' hBr hHr hdl hdn
              cases F with
              | true =>
                have hnl := hnx'.out
                rw [if_pos rfl, hO'.out] at hnl
                have hnl' := hid hnl
                clear hnl
                go_wp2_with (first
                  | (((with_reducible refine at_slot (some 45) ?_); refine wpList_pushOne rfl rfl 36 60 (.tmp 44) (.tmp 41) (.tmp 45) rfl rfl w.heap.size i0 _ 3 32 Try.underlying36 hi hz0 hz1 hz2 rfl (by decide) (by decide) A1 O.length c1 (entCells O) (x.cells) rfl rfl rfl rfl (Ent.ones _) (by omega) (by omega) (by exact hown2'.out) (by exact hBr'.out.size) ?_; intro A21 c21 v1 hrow hb3 hk3; have hrow1 := hid hrow; have hBv1 := hid (hBr'.out.trans hb3); have hHv1 := hid (hk3 q _ _ hHr'.out (by decide)); clear hrow hb3 hk3); have c0 := ((h'.out.below hBv1.out).at3 ha'.out).1)
                  | fail)
                go_roundw
                case rel => exact ⟨j + 1, A21, c21, by omega, by go_num, by rw [hdn'.out], by rw [hnl'.out, List.length_append]; rfl, by rw [hnl'.out, List.length_append, entCells_append]; simpa [entCells] using hrow1.out, hHv1.out, hBv1.out, outE_len _ _ _⟩
                case measure => simp [intOf]; omega
              | false =>
                have hnl := hnx'.out
                rw [if_neg (by decide), hO'.out] at hnl
                have hnl' := hid hnl
                clear hnl
                go_wp2_with (first
                  | (((with_reducible refine at_slot (some 45) ?_); refine wpList_pushOne rfl rfl 36 60 (.tmp 44) (.tmp 41) (.tmp 45) rfl rfl w.heap.size i0 _ 3 32 Try.underlying36 hi hz0 hz1 hz2 rfl (by decide) (by decide) A1 O.length c1 (entCells O) (x.cells) rfl rfl rfl rfl (Ent.ones _) (by omega) (by omega) (by exact hown2'.out) (by exact hBr'.out.size) ?_; intro A21 c21 v1 hrow hb3 hk3; have hrow1 := hid hrow; have hBv1 := hid (hBr'.out.trans hb3); have hHv1 := hid (hk3 q _ _ hHr'.out (by decide)); clear hrow hb3 hk3); have c0 := ((h'.out.below hBv1.out).at3 ha'.out).1)
                  | ((with_reducible refine at_slot (some 58) ?_); refine wpList_load_any rfl _ _ rfl _ rfl a.cells _ (by exact (h'.out.below hBv1.out).cells_at ha'.out) Try.underlying60 rfl Try.infoEnt ?_)
                  | ((with_reducible refine at_slot (some 59) ?_); refine wpList_pushOne rfl rfl 36 60 (.tmp 58) (.tmp 54) (.tmp 59) rfl rfl w.heap.size i0 _ 3 32 Try.underlying36 hi hz0 hz1 hz2 rfl (by decide) (by decide) A21 (O.length + 1) c21 (entCells O ++ x.cells) (a.cells) rfl rfl rfl rfl (Ent.ones _) (by omega) (by omega) (by exact hrow1.out) (by exact hBv1.out.size) ?_; intro A22 c22 v2 hrow hb3 hk3; have hrow2 := hid hrow; have hBv2 := hid (hBv1.out.trans hb3); have hHv2 := hid (hk3 q _ _ hHv1.out (by decide)); clear hrow hb3 hk3)
                  | fail)
                go_roundw
                case rel => exact ⟨j + 1, A22, c22, by omega, by go_num, by rw [hdn'.out], by rw [hnl'.out, List.length_append, List.length_append]; rfl, by rw [hnl'.out, List.length_append, List.length_append, entCells_append, entCells_append]; simpa [entCells] using hrow2.out, hHv2.out, hBv2.out, outE_len _ _ _⟩
                case measure => simp [intOf]; omega
            · -- elsewhere
              obtain ⟨O, hO⟩ : ∃ O, outE xs x j = O := ⟨_, rfl⟩
              have hown2 := hown'.out
              rw [hO] at hown2 hol
              have hown2' := hid hown2
              by_cases hjl : j < L
              · have haL : lessB a.name x.name = true := low_before (by rw [hL'.out]; exact hjl) ha'.out
                have hdl : decide (L < j) = false := decide_eq_false (by omega)
                have hdn : decide (L < j + 1) = false := decide_eq_false (by omega)
                have hge : Op.bytesLess a.name.toList x.name.toList = true := haL
                have hne : (a.name.toList == x.name.toList) = false := name_ne haL
                have hnl := outE_before (x := x) (by rw [hL'.out]; exact hjl) ha'.out
                rw [hO] at hnl
                have hnl' := hid hnl
                have hdn' := hid hdn
                rw [hO, hdl]
                have hO' := hid hO
                clear hO hnl haL hown2 hown' hBr hdl hdn
                go_wp2_with (first
                  | ((with_reducible refine at_slot (some 58) ?_); refine wpList_load_any rfl _ _ rfl _ rfl a.cells _ (by exact (h'.out.below hBr'.out).cells_at ha'.out) Try.underlying60 rfl Try.infoEnt ?_)
                  | ((with_reducible refine at_slot (some 59) ?_); refine wpList_pushOne rfl rfl 36 60 (.tmp 58) (.tmp 54) (.tmp 59) rfl rfl w.heap.size i0 _ 3 32 Try.underlying36 hi hz0 hz1 hz2 rfl (by decide) (by decide) A1 O.length c1 (entCells O) (a.cells) rfl rfl rfl rfl (Ent.ones _) (by omega) (by omega) (by exact hown2'.out) (by exact hBr'.out.size) ?_; intro A22 c22 v2 hrow hb3 hk3; have hrow2 := hid hrow; have hBv2 := hid (hBr'.out.trans hb3); have hHv2 := hid (hk3 q _ _ hHr'.out (by decide)); clear hrow hb3 hk3)
                  | fail)
                go_roundw
                case rel => exact ⟨j + 1, A22, c22, by omega, by go_num, by rw [hdn'.out], by rw [hnl'.out, List.length_append]; rfl, by rw [hnl'.out, List.length_append, entCells_append]; simpa [entCells] using hrow2.out, hHv2.out, hBv2.out, outE_len _ _ _⟩
                case measure => simp [intOf]; omega
              · have haL : lessB x.name a.name = true := behind_less hrise.out (by rw [hL'.out]; omega) ha'.out
                have hdl : decide (L < j) = true := decide_eq_true (by omega)
                have hdn : decide (L < j + 1) = true := decide_eq_true (by omega)
                have hne : (a.name.toList == x.name.toList) = false := name_ne' haL
                have hnl := outE_behind (x := x) (by rw [hL'.out]; omega) ha'.out
                rw [hO] at hnl
                have hnl' := hid hnl
                have hdn' := hid hdn
                rw [hO, hdl]
                have hO' := hid hO
                clear hO hnl haL hown2 hown' hBr hdl hdn
                go_wp2_with (first
                  | ((with_reducible refine at_slot (some 58) ?_); refine wpList_load_any rfl _ _ rfl _ rfl a.cells _ (by exact (h'.out.below hBr'.out).cells_at ha'.out) Try.underlying60 rfl Try.infoEnt ?_)
                  | ((with_reducible refine at_slot (some 59) ?_); refine wpList_pushOne rfl rfl 36 60 (.tmp 58) (.tmp 54) (.tmp 59) rfl rfl w.heap.size i0 _ 3 32 Try.underlying36 hi hz0 hz1 hz2 rfl (by decide) (by decide) A1 O.length c1 (entCells O) (a.cells) rfl rfl rfl rfl (Ent.ones _) (by omega) (by omega) (by exact hown2'.out) (by exact hBr'.out.size) ?_; intro A22 c22 v2 hrow hb3 hk3; have hrow2 := hid hrow; have hBv2 := hid (hBr'.out.trans hb3); have hHv2 := hid (hk3 q _ _ hHr'.out (by decide)); clear hrow hb3 hk3)
                  | fail)
                go_roundw
                case rel => exact ⟨j + 1, A22, c22, by omega, by go_num, by rw [hdn'.out], by rw [hnl'.out, List.length_append]; rfl, by rw [hnl'.out, List.length_append, entCells_append]; simpa [entCells] using hrow2.out, hHv2.out, hBv2.out, outE_len _ _ _⟩
                case measure => simp [intOf]; omega
          · have hlt' : ¬ (j : Int) < (n : Int) := by omega
            obtain rfl : j = n := by omega
            have hend := outE_end (xs := xs) (x := x)
            rw [hL'.out, hlen] at hend
            obtain ⟨O, hO⟩ : ∃ O, outE xs x j = O := ⟨_, rfl⟩
            have hown2 := hown'.out
            rw [hO] at hown2 hol hend
            rw [hO]
            have hown2' := hid hown2
            have hr4 := hid (fun (A4 : Option Addr) (c4 : Nat) (W : World) (hrow : W.ownsRow w.heap.size 60 3 (.slice A4 Z.length c4) Z.length (entCells Z)) (hbw : Below w.heap.size w W) => show (32 < Z.length → SetPost R y w (.returned (.tuple #[.slice none 0 0, .int .i64 1300])) W) ∧ (¬ 32 < Z.length → SetPost R y w (.returned (.tuple #[.slice A4 Z.length c4, .int .i64 0])) W) from by
              refine ⟨fun hz => ?_, fun hz => ?_⟩
              · have hs4 := hs3'.out
                rw [decide_eq_false (by omega), if_neg (by decide)] at hs4
                obtain ⟨rfl, rfl⟩ := Prod.mk.inj hs4
                exact SetPost.nil hbw
              · have hs4 := hs3'.out
                rw [decide_eq_true (by omega), if_pos rfl] at hs4
                obtain ⟨rfl, rfl⟩ := Prod.mk.inj hs4
                exact ⟨A4, c4, rfl, hrow, hbw⟩)
            by_cases hLj : L < j
            · rw [if_pos hLj] at hend
              have hZO : Z = O := by rw [← hZ'.out, ← hend]
              subst hZO
              have hdl : decide (L < j) = true := decide_eq_true hLj
              rw [hdl]
              clear hdl hO hend hown2 hown'
              obtain ⟨f1, f2⟩ := hr4.out _ _ _ hown2'.out hBr
              have f1' := hid f1
              have f2' := hid f2
              clear f1 f2 hBr
              by_cases hz : 32 < Z.length
              · have hz' : (32 : Int) < (Z.length : Int) := by omega
                go_wp2_with fail
                go_ret2
                exact f1'.out hz
              · have hz' : ¬ (32 : Int) < (Z.length : Int) := by omega
                go_wp2_with fail
                go_ret2
                exact f2'.out hz
            · rw [if_neg hLj] at hend
              have hZO : Z = O ++ [x] := by rw [← hZ'.out, ← hend]
              have hdl : decide (L < j) = false := decide_eq_false hLj
              rw [hdl]
              obtain ⟨r0, r1⟩ := hcl.out wr hHr
              have hZl : Z.length = O.length + 1 := by rw [hZO, List.length_append]; rfl
              have hZO' := hid hZO
              have hZl' := hid hZl
              clear hdl hO hend hown2 hown' hBr hHr hZO hZl
              by_cases hz : 32 < O.length + 1
              · have hz' : (32 : Int) < (O.length : Int) + 1 := by omega
                go_wp2_with (first
                  | (((with_reducible refine at_slot (some 67) ?_); refine wpList_pushOne rfl rfl 36 60 (.tmp 66) (.tmp 63) (.tmp 67) rfl rfl w.heap.size i0 _ 3 32 Try.underlying36 hi hz0 hz1 hz2 rfl (by decide) (by decide) A1 O.length c1 (entCells O) (x.cells) rfl rfl rfl rfl (Ent.ones _) (by omega) (by omega) (by exact hown2'.out) (by exact hBr'.out.size) ?_; intro A21 c21 v1 hrow hb3 hk3; have hrow1 := hid hrow; have hBv1 := hid (hBr'.out.trans hb3); have hHv1 := hid (hk3 q _ _ hHr'.out (by decide)); clear hrow hb3 hk3))
                  | fail)
                go_ret2
                have hrw := hrow1.out
                refine (hr4.out A21 c21 v1 (by rw [hZl'.out, hZO'.out, entCells_append]; simpa [entCells] using hrw) hBv1.out).1 (by rw [hZl'.out]; exact hz)
              · have hz' : ¬ (32 : Int) < (O.length : Int) + 1 := by omega
                go_wp2_with (first
                  | (((with_reducible refine at_slot (some 67) ?_); refine wpList_pushOne rfl rfl 36 60 (.tmp 66) (.tmp 63) (.tmp 67) rfl rfl w.heap.size i0 _ 3 32 Try.underlying36 hi hz0 hz1 hz2 rfl (by decide) (by decide) A1 O.length c1 (entCells O) (x.cells) rfl rfl rfl rfl (Ent.ones _) (by omega) (by omega) (by exact hown2'.out) (by exact hBr'.out.size) ?_; intro A21 c21 v1 hrow hb3 hk3; have hrow1 := hid hrow; have hBv1 := hid (hBr'.out.trans hb3); have hHv1 := hid (hk3 q _ _ hHr'.out (by decide)); clear hrow hb3 hk3))
                  | fail)
                go_ret2
                have hrw := hrow1.out
                have hf := (hr4.out A21 c21 v1 (by rw [hZl'.out, hZO'.out, entCells_append]; simpa [entCells] using hrw) hBv1.out).2 (by rw [hZl'.out]; exact hz)
                rw [hZl'.out] at hf
                exact hf

end Go.Proofs.Ytapegklffglnoaa
namespace Go.Proofs.Ytapegklffglnoaa
open Go.RowKit

/-- The entries of other names among the first i. -/
def remE (xs : List Ent) (k : ByteArray) (i : Nat) : List Ent := (xs.take i).filter fun a => !(a.name.toList == k.toList)
theorem remE_same {xs : List Ent} {k : ByteArray} {i : Nat} {a : Ent} (ha : xs[i]? = some a) (h : (a.name.toList == k.toList) = true) : remE xs k (i + 1) = remE xs k i := by
  unfold remE
  rw [List.take_add_one, ha, List.filter_append]
  simp [h]
theorem remE_other {xs : List Ent} {k : ByteArray} {i : Nat} {a : Ent} (ha : xs[i]? = some a) (h : (a.name.toList == k.toList) = false) : remE xs k (i + 1) = remE xs k i ++ [a] := by
  unfold remE
  rw [List.take_add_one, ha, List.filter_append]
  simp [h]
theorem remE_len (xs : List Ent) (k : ByteArray) (i : Nat) : (remE xs k i).length ≤ i := by
  unfold remE
  refine Nat.le_trans (List.length_filter_le _ _) ?_
  rw [List.length_take]
  omega
theorem find_has {xs : List Ent} {k : ByteArray} (hr : RisesE xs.length xs) : (findE xs k).isSome = hasE xs k := by
  cases hh : hasE xs k with
  | true =>
    cases hx : xs[lowE xs k]? with
    | none => unfold hasE at hh; rw [hx] at hh; cases hh
    | some a =>
      have he := here_eq hx
      rw [hh] at he
      rw [find_next (fun t y ht hy => name_ne (low_before ht hy)) hx he]
      rfl
  | false =>
    rw [find_none fun t y ht hy => ?_]
    · rfl
    · rcases Nat.lt_trichotomy t (lowE xs k) with h | h | h
      · exact name_ne (low_before h hy)
      · subst h
        rw [here_eq hy, hh]
      · exact name_ne' (behind_less hr h hy)
theorem remE_end {xs : List Ent} {k : ByteArray} (hr : RisesE xs.length xs) (hh : hasE xs k = true) : remE xs k xs.length = withoutE xs k := by
  cases hx : xs[lowE xs k]? with
  | none => unfold hasE at hh; rw [hx] at hh; cases hh
  | some a =>
    have he := here_eq hx
    rw [hh] at he
    have hl := (List.getElem?_eq_some_iff.1 hx).1
    unfold remE withoutE
    rw [List.take_length]
    have hsplit : xs = xs.take (lowE xs k) ++ a :: xs.drop (lowE xs k + 1) := by
      have h1 : xs.drop (lowE xs k) = a :: xs.drop (lowE xs k + 1) := by
        rw [List.drop_eq_getElem_cons hl]
        rw [(List.getElem?_eq_some_iff.1 hx).2]
      rw [← h1, List.take_append_drop]
    conv => lhs; rw [hsplit]
    rw [List.filter_append, List.filter_cons, he]
    have f1 : (xs.take (lowE xs k)).filter (fun a => !(a.name.toList == k.toList)) = xs.take (lowE xs k) := by
      rw [List.filter_eq_self]
      intro y hy
      obtain ⟨t, ht⟩ := List.getElem?_of_mem hy
      have htl := (List.getElem?_eq_some_iff.1 ht).1
      rw [List.length_take] at htl
      rw [List.getElem?_take_of_lt (by omega)] at ht
      rw [name_ne (low_before (by omega) ht)]
      rfl
    have f2 : (xs.drop (lowE xs k + 1)).filter (fun a => !(a.name.toList == k.toList)) = xs.drop (lowE xs k + 1) := by
      rw [List.filter_eq_self]
      intro y hy
      obtain ⟨t, ht⟩ := List.getElem?_of_mem hy
      rw [List.getElem?_drop] at ht
      rw [name_ne' (behind_less hr (by omega) ht)]
      rfl
    rw [f1, f2]
    rfl

set_option maxRecDepth 100000 in
set_option maxHeartbeats 16000000 in
theorem rRemove_any (A : Option Addr) (n c B : Nat) (xs : List Ent) (k : ByteArray) (w : World) (h : Ents w B A n xs) (hB : B ≤ w.heap.size) (hn : n ≤ 10000000000000) (R : List Ent) (F : Bool) (hs : removeS xs k = (R, F)) :
    Calls Try.prog 29 #[.slice A n c, .string k] w (DelPost R F w) := by
  obtain ⟨i0, hi, hz0, hz1, hz2⟩ := info_parts Try.infoEntI
  have hlen := h.1
  have h' := hid (h.more hB)
  have hF := hid (rFind_any A n c B xs k w h hB hn)
  have hMay := hid (fun (W : World) (hW : Below w.heap.size w W) => rDirMay_any A n c B xs W (h.below (hW.mono hB)) (Nat.le_trans hB hW.size) hn)
  obtain ⟨d, hd⟩ : ∃ d, dirB xs = d := ⟨_, rfl⟩
  obtain ⟨x, hx⟩ : ∃ x, (findE xs k).getD noEnt = x := ⟨_, rfl⟩
  obtain ⟨f, hf⟩ : ∃ f, (findE xs k).isSome = f := ⟨_, rfl⟩
  unfold FindPost at hF
  rw [hx, hf] at hF
  rw [hd] at hMay
  have hno : (f && d) = false → R = [] ∧ F = false := fun e => by
    unfold removeS at hs
    rw [if_neg] at hs
    · exact ⟨(Prod.mk.inj hs).1.symm, (Prod.mk.inj hs).2.symm⟩
    · rw [hd]
      intro e2
      rw [Bool.and_eq_true] at e2
      have hD := dirB_of (hd.trans e2.1)
      rw [← hf, find_has hD.2.2, e2.2, e2.1] at e
      cases e
  have hyes : f = true → d = true → R = withoutE xs k ∧ F = true ∧ RisesE xs.length xs ∧ hasE xs k = true ∧ n ≤ 32 := fun e1 e2 => by
    have hD := dirB_of (hd.trans e2)
    have hh : hasE xs k = true := by rw [← find_has hD.2.2, hf, e1]
    unfold removeS at hs
    rw [hd, e2, hh, Bool.and_self, if_pos rfl] at hs
    exact ⟨(Prod.mk.inj hs).1.symm, (Prod.mk.inj hs).2.symm, hD.2.2, hh, by have := hD.1; omega⟩
  have hno' := hid hno
  have hyes' := hid hyes
  clear hd hx hf hno hyes hs h
  go_enter Try.func29, Try.ntmps29
  go_wp2_with fail
  refine hF.out.mono ?_
  rintro e W1 ⟨rfl, hb1⟩
  have hB1 := hid hb1
  obtain ⟨W2, hW2⟩ : ∃ W2, W1.alloc (.cells #[.int .i64 x.owner, .int .i64 x.num] 38) = W2 := ⟨_, rfl⟩
  have hB2 : Below w.heap.size w W2 := by rw [← hW2]; exact hb1.alloc hb1.size _
  have hW2' := hid hW2
  have hB2' := hid hB2
  clear hb1 hW2 hB2 hF
  rename_i hK
  refine hK _ _ ?_
  clear hK
  cases f with
  | false =>
    obtain ⟨rfl, rfl⟩ := hno'.out (by first | rfl | trivial)
    go_wp2_with fail
    rw [hW2'.out]
    go_ret2
    exact DelPost.nil hB2'.out
  | true =>
    go_wp2_with fail
    rw [hW2'.out]
    refine (hMay.out W2 hB2'.out).mono ?_
    rintro e W3 ⟨rfl, hb3⟩
    have hB3 := hid (hB2'.out.trans (hb3.mono hB2'.out.size))
    clear hb3
    cases d with
    | false =>
      obtain ⟨rfl, rfl⟩ := hno'.out (by first | rfl | trivial)
      go_wp2_with fail
      go_ret2
      exact DelPost.nil hB3.out
    | true =>
      obtain ⟨hR, rfl, hri, hh, hn32⟩ := hyes'.out (by first | rfl | trivial) (by first | rfl | trivial)
      have hfin := hid (show remE xs k xs.length = R from by rw [remE_end hri hh, hR])
      clear hR hri hh hno' hyes'
      go_wp2_with fail
      go_loopw [8, 9] (fun o i wr => ∃ (j : Nat) (A1 : Option Addr) (c1 : Nat), j ≤ n ∧ i = .int .i64 (j : Int) ∧ o = .slice A1 (remE xs k j).length c1 ∧ wr.ownsRow w.heap.size 60 3 (.slice A1 (remE xs k j).length c1) (remE xs k j).length (entCells (remE xs k j)) ∧ Below w.heap.size w wr) (fun _ i _ => n - (intOf i).toNat)
      case atStart => exact ⟨0, none, 0, Nat.zero_le _, rfl, rfl, World.ownsRow_nil _ _ _ _, hB3.out⟩
      case round =>
        obtain ⟨j, A1, c1, hj, rfl, rfl, hown, hBr⟩ := hrel
        have hown' := hid hown
        have hBr' := hid hBr
        have hol := remE_len xs k j
        clear hown
        by_cases hlt : j < n
        · have hS := h'.out.below hBr
          obtain ⟨p, a, hpA, hpB, ha, hfa, hca⟩ := hS.get (k := j) hlt
          subst hpA
          have hlt' : (j : Int) < (n : Int) := by omega
          have c0 := (hS.at3 ha).1
          have ha' := hid ha
          have s3 : (0 : Int) ≤ (j : Int) := by omega
          have hkw := IntWalk.i64_in ((j : Int) + 1) (by omega)
          clear hca ha hS hBr
          cases hne : a.name.toList == k.toList with
          | true =>
            have hnx := hid (remE_same ha'.out hne)
            go_wp2_with fail
            go_roundw
            case rel => exact ⟨j + 1, A1, c1, by omega, by go_num, by rw [hnx.out], by rw [hnx.out]; exact hown'.out, hBr'.out⟩
            case measure => simp [intOf]; omega
          | false =>
            have hnx := hid (remE_other ha'.out hne)
            go_wp2_with (first
              | ((with_reducible refine at_slot (some 40) ?_); refine wpList_load_any rfl _ _ rfl _ rfl a.cells _ (by exact (h'.out.below hBr'.out).cells_at ha'.out) Try.underlying60 rfl Try.infoEnt ?_)
              | ((with_reducible refine at_slot (some 41) ?_); refine wpList_pushOne rfl rfl 36 60 (.tmp 40) (.tmp 36) (.tmp 41) rfl rfl w.heap.size i0 _ 3 32 Try.underlying36 hi hz0 hz1 hz2 rfl (by decide) (by decide) A1 (remE xs k j).length c1 (entCells (remE xs k j)) (a.cells) rfl rfl rfl rfl (Ent.ones _) (by omega) (by omega) (by exact hown'.out) (by exact hBr'.out.size) ?_; intro A21 c21 v1 hrow hb3 hk3; have hrow1 := hid hrow; have hBv1 := hid (hBr'.out.trans hb3); clear hrow hb3 hk3)
              | fail)
            go_roundw
            case rel => exact ⟨j + 1, A21, c21, by omega, by go_num, by rw [hnx.out, List.length_append]; rfl, by rw [hnx.out, List.length_append, entCells_append]; simpa [entCells] using hrow1.out, hBv1.out⟩
            case measure => simp [intOf]; omega
        · have hlt' : ¬ (j : Int) < (n : Int) := by omega
          obtain rfl : j = n := by omega
          have hf2 := hfin.out
          rw [hlen] at hf2
          have hown2 := hown'.out
          rw [hf2] at hown2
          rw [hf2]
          have hown2' := hid hown2
          clear hf2 hown2 hBr
          go_wp2_with fail
          go_ret2
          exact ⟨A1, c1, rfl, hown2'.out, hBr'.out⟩

end Go.Proofs.Ytapegklffglnoaa
