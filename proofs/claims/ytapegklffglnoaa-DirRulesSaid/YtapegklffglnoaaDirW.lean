/- Layer 13: Dirs. -/
import Derived.Test.YtapegklffglnoaaDirV
import Derived.Test.YtapegklffglnoaaDirRf
import Derived.Test.YtapegklffglnoaaDirK
namespace Go.Proofs.Ytapegklffglnoaa
open Go.RowKit

theorem on_trans {a b c : World} (h : Below a.heap.size a b) (k : Below b.heap.size b c) : Below a.heap.size a c := h.trans (k.mono h.size)
theorem own_on {w w' : World} {n0 c k sz : Nat} {A : Option Addr} {t : TypeId} {cs : List Value} (h : w.ownsRow n0 t sz (.slice A k c) k cs) (hb : Below w.heap.size w w') : w'.ownsRow n0 t sz (.slice A k c) k cs := by
  have hlt := h.lt
  obtain ⟨h1, h2 | ⟨g, cap, cur, hv, hB, hh, rest⟩⟩ := h
  · exact ⟨h1, .inl h2⟩
  · refine ⟨h1, .inr ⟨g, cap, cur, hv, hB, ?_, rest⟩⟩
    rw [hb.block g (hlt g (by rw [hv]; rfl)).2]
    exact hh
theorem own_past {w w' : World} {n0 c k sz : Nat} {A : Option Addr} {t : TypeId} {cs : List Value} (h : w.ownsRow n0 t sz (.slice A k c) k cs) (hb : ∀ q, (Value.slice A k c).ownBlock = some q → w'.heap[q]? = w.heap[q]?) : w'.ownsRow n0 t sz (.slice A k c) k cs := by
  obtain ⟨h1, h2 | ⟨g, cap, cur, hv, hB, hh, rest⟩⟩ := h
  · exact ⟨h1, .inl h2⟩
  · refine ⟨h1, .inr ⟨g, cap, cur, hv, hB, ?_, rest⟩⟩
    rw [hb g (by rw [hv]; rfl)]
    exact hh
theorem Holds.any {w : World} {q : Nat} {t : TypeId} {cs : List Value} (h : Holds w q t cs) : ∀ (j : Nat) (v : Value), cs[j]? = some v → w.cell? ((⟨q, 0, none⟩ : Addr).add j) = some v := fun j v hv => by
  rw [show (⟨q, 0, none⟩ : Addr).add j = ⟨q, j, none⟩ from by unfold Addr.add; split <;> simp_all, h.cell]
  exact hv

theorem ref_new (w : World) (o n : Int) : ∃ V, w.alloc (.cells #[.int .i64 o, .int .i64 n] 38) = V ∧ Holds V w.heap.size 38 [.int .i64 o, .int .i64 n] ∧ Below w.heap.size w V :=
  ⟨_, rfl, Holds.new _ _ _, (Below.refl _ _).alloc (Nat.le_refl _) _⟩

theorem eget_len {s : ByteArray} {R : List Ent} {x : Int} (h : egetS s = (R, x)) : R.length ≤ 32 := by
  unfold egetS at h
  split at h
  · rename_i hc
    rw [Bool.and_eq_true] at hc
    obtain ⟨rfl, -⟩ := Prod.mk.inj h
    exact (dirB_of hc.2).1
  · obtain ⟨rfl, -⟩ := Prod.mk.inj h
    exact Nat.zero_le _
theorem set_len {xs R : List Ent} {x : Ent} {y : Int} (h : setS xs x = (R, y)) : R.length ≤ 32 := by
  unfold setS at h
  split at h
  · rename_i hc
    rw [Bool.and_eq_true] at hc
    obtain ⟨rfl, -⟩ := Prod.mk.inj h
    exact of_decide_eq_true hc.2
  · obtain ⟨rfl, -⟩ := Prod.mk.inj h
    exact Nat.zero_le _
theorem set_fine {xs R : List Ent} {x : Ent} {y : Int} (h : setS xs x = (R, y)) (hf : ∀ z ∈ xs, z.fine) (hx : x.fine) : ∀ z ∈ R, z.fine := by
  unfold setS at h
  split at h
  · obtain ⟨rfl, -⟩ := Prod.mk.inj h
    intro z hz
    unfold withE at hz
    rw [List.append_assoc, List.mem_append, List.mem_append, List.mem_singleton] at hz
    rcases hz with hz | rfl | hz
    · exact hf z (List.mem_of_mem_take hz)
    · exact hx
    · exact hf z (List.mem_of_mem_drop hz)
  · obtain ⟨rfl, -⟩ := Prod.mk.inj h
    exact fun z hz => by cases hz
theorem remove_len {xs R : List Ent} {k : ByteArray} {y : Bool} (h : removeS xs k = (R, y)) : R.length ≤ 32 := by
  unfold removeS at h
  split at h
  · rename_i hc
    rw [Bool.and_eq_true] at hc
    have h1 := (dirB_of hc.1).1
    obtain ⟨rfl, -⟩ := Prod.mk.inj h
    unfold withoutE
    simp only [List.length_append, List.length_take, List.length_drop]
    omega
  · obtain ⟨rfl, -⟩ := Prod.mk.inj h
    exact Nat.zero_le _
theorem remove_fine {xs R : List Ent} {k : ByteArray} {y : Bool} (h : removeS xs k = (R, y)) (hf : ∀ z ∈ xs, z.fine) : ∀ z ∈ R, z.fine := by
  unfold removeS at h
  split at h
  · obtain ⟨rfl, -⟩ := Prod.mk.inj h
    intro z hz
    unfold withoutE at hz
    rw [List.mem_append] at hz
    rcases hz with hz | hz
    · exact hf z (List.mem_of_mem_take hz)
    · exact hf z (List.mem_of_mem_drop hz)
  · obtain ⟨rfl, -⟩ := Prod.mk.inj h
    exact fun z hz => by cases hz

set_option maxRecDepth 100000 in
set_option maxHeartbeats 8000000 in
theorem Dirs_law {w : World} (A : Option Addr) (n c : Nat) (xs : List Ent) (hin : EntsIn w A n c xs) (s : ByteArray) (hS : s.size ≤ 140737488351232) (name : ByteArray) (hN : name.size ≤ 140737488351232) (o m : Int) :
    Calls Try.prog 6 #[.slice A n c, .string s, .string name, .agg #[.int .i64 o, .int .i64 m]] w fun e w' => e = .returned (.bool true) ∧ Below w.heap.size w w' := by
  obtain ⟨hI, hnc, hn32, hnil⟩ := hin
  have hn : n ≤ 9000000000000 := by omega
  have hn' : n ≤ 10000000000000 := by omega
  have hNm : name.size ≤ maxLen := Nat.le_trans hN (by decide)
  have hlen := hI.1
  have hxf := hid hI.2.1
  obtain ⟨sa, ea, hput⟩ : ∃ p q, eputS xs = (p, q) := ⟨_, _, rfl⟩
  obtain ⟨G, eg, hget⟩ : ∃ p q, egetS s = (p, q) := ⟨_, _, rfl⟩
  obtain ⟨S, es, hset⟩ : ∃ p q, setS xs ⟨name, o, m⟩ = (p, q) := ⟨_, _, rfl⟩
  obtain ⟨D, ed, hdel⟩ : ∃ p q, removeS xs name = (p, q) := ⟨_, _, rfl⟩
  obtain ⟨fo, hfo⟩ : ∃ p, ((findE xs name).getD noEnt).owner = p := ⟨_, rfl⟩
  obtain ⟨fn, hfn⟩ : ∃ p, ((findE xs name).getD noEnt).num = p := ⟨_, rfl⟩
  obtain ⟨fb, hfb⟩ : ∃ p, (findE xs name).isSome = p := ⟨_, rfl⟩
  have hGl := eget_len hget
  have hSl := set_len hset
  have hDl := remove_len hdel
  have hS9 : S.length ≤ 9000000000000 := by omega
  have hD9' : D.length ≤ 9000000000000 := by omega
  have hGl' : G.length ≤ 10000000000000 := by omega
  have hSl' : S.length ≤ 10000000000000 := by omega
  have hDl' : D.length ≤ 10000000000000 := by omega
  have hSf := hid (set_fine hset hxf.out (show (⟨name, o, m⟩ : Ent).fine from hN))
  have hDf := hid (remove_fine hdel hxf.out)
  have hput' := hid hput
  have hget' := hid hget
  have hset' := hid hset
  have hdel' := hid hdel
  have hfd := hid (show ∀ w e w', FindPost (findE xs name) w e w' → e = .returned (.tuple #[.agg #[.int .i64 fo, .int .i64 fn], .bool fb]) ∧ Below w.heap.size w w' from fun w e w' h => by rw [← hfo, ← hfn, ← hfb]; exact h)
  clear hput hget hset hdel hfo hfn hfb hGl hSl hDl
  obtain ⟨V0, hV0⟩ : ∃ V0, w.alloc (.cells #[.int .i64 o, .int .i64 m] 38) = V0 := ⟨_, rfl⟩
  have hH0 := hid (show Holds V0 w.heap.size 38 [.int .i64 o, .int .i64 m] from by rw [← hV0]; exact Holds.new _ _ _)
  have hb0 := hid (show Below w.heap.size w V0 from by rw [← hV0]; exact (Below.refl _ _).alloc (Nat.le_refl _) _)
  have hI0 := hid (hI.on hb0.out)
  have hlt0 := hid hH0.out.lt
  have hV0' := hid hV0
  clear hI hV0
  go_enter Try.func6, Try.ntmps6
  go_wp2_with (first
    | ((with_reducible refine at_slot (some 7) ?_); refine wpList_run rfl (.pointer (some ⟨w.heap.size, 0, none⟩)) (w.alloc (.cells #[.int .i64 o, .int .i64 m] 38)) (by kernel_rfl) ?_; rw [hV0'.out])
    | fail)
  refine (LendEnts_any A n c xs ⟨hI0.out, hnc, hn32, hnil⟩).mono ?_
  rintro e W1 ⟨A', c', rfl, hc', hL, hb⟩
  have hL1 := hid hL
  have o1 := hid hb
  have hnil' : A' = none → c' = 0 := fun h => by
    rcases hL.at_ with h0 | ⟨p, hp⟩
    · omega
    · rw [h] at hp; cases hp
  have hc'' : n ≤ c' := by omega
  have hF1 := hid (hL.front hlen)
  clear hb hL
  go_wp2_with fail
  refine (dirPut_any A' n c' _ xs W1 hF1.out (Nat.le_refl _) hn' sa ea hput'.out).mono ?_
  rintro e W2 ⟨rfl, hb⟩
  have l2 := hid hb
  clear hb
  go_wp2_with fail
  refine (rPutDir_any A n c _ xs W2 (hI0.out.on (on_trans o1.out l2.out)) (Nat.le_refl _) hn' sa ea hput'.out).mono ?_
  rintro e W3 ⟨rfl, hb⟩
  have l3 := hid (on_trans l2.out hb)
  clear hb
  go_wp2_with fail
  refine (dirGet_any s hS G eg hget'.out W3).mono ?_
  rintro e W4 ⟨A4, c4, rfl, hown, hf4, hb⟩
  have hG4 := hid (ents_of_own hf4 hown)
  have l4 := hid (on_trans l3.out hb)
  clear hb hown
  go_wp2_with fail
  refine (rGetDir_any s hS G eg hget'.out W4).mono ?_
  rintro e W5 ⟨A5, c5, rfl, hown, hf5, hb⟩
  have hG5 := hid (ents_of_own hf5 hown)
  have hk5 := hid (hG4.out.on hb)
  have l5 := hid (on_trans l4.out hb)
  clear hb hown hf4 hf5
  have hr5 := hid (hH0.out.below (on_trans o1.out l5.out) hlt0.out)
  go_wp2_with (first
    | ((with_reducible refine at_slot (some 55) ?_); refine wpList_load_any rfl 38 (.tmp 7) rfl ⟨w.heap.size, 0, none⟩ rfl [.int .i64 o, .int .i64 m] _ (by exact hr5.out.any) Try.underlying38 rfl (by exact Try.infoRef) ?_)
    | fail)
  refine (dirSet_any A' n c' _ xs ⟨name, o, m⟩ W5 (hF1.out.on l5.out) (Nat.le_refl _) hn' hc'' hnil' hNm S es hset'.out).mono ?_
  rintro e W6 ⟨A6, c6, rfl, hown, hb⟩
  have hS6 := hid hown
  have h6 := hid hb
  have l6 := hid (on_trans l5.out hb)
  have hr6 := hid (hH0.out.below (on_trans o1.out l6.out) hlt0.out)
  clear hb hown
  go_wp2_with (first
    | ((with_reducible refine at_slot (some 62) ?_); refine wpList_load_any rfl 38 (.tmp 7) rfl ⟨w.heap.size, 0, none⟩ rfl [.int .i64 o, .int .i64 m] _ (by exact hr6.out.any) Try.underlying38 rfl (by exact Try.infoRef) ?_)
    | fail)
  refine (rSet_any A n c _ xs ⟨name, o, m⟩ W6 (hI0.out.on (on_trans o1.out l6.out)) (Nat.le_refl _) hn' hNm S es hset'.out).mono ?_
  rintro e W7 ⟨A7, c7, rfl, hown, hb⟩
  have hS7 := hid (ents_of_own hSf.out hown)
  have h7 := hid hb
  have l7 := hid (on_trans l6.out hb)
  clear hb hown hr5 hr6
  go_wp2_with fail
  refine (dirRemove_any A' n c' _ xs name W7 (hF1.out.on l7.out) (Nat.le_refl _) hn' hc'' hnil' D ed hdel'.out).mono ?_
  rintro e W8 ⟨A8, c8, rfl, hown, hb⟩
  have hD8 := hid hown
  have h8 := hid hb
  have l8 := hid (on_trans l7.out hb)
  clear hb hown
  go_wp2_with fail
  refine (rRemove_any A n c _ xs name W8 (hI0.out.on (on_trans o1.out l8.out)) (Nat.le_refl _) hn' D ed hdel'.out).mono ?_
  rintro e W9 ⟨A9, c9, rfl, hown, hb⟩
  have hD9 := hid (ents_of_own hDf.out hown)
  have h9 := hid hb
  have l9 := hid (on_trans l8.out hb)
  clear hb hown
  go_wp2_with fail
  refine (dirFind_any A' n c' _ xs name W9 (hF1.out.on l9.out) (Nat.le_refl _) hn').mono ?_
  intro e X10 hpost
  obtain ⟨rfl, hb⟩ := hfd.out _ _ _ hpost
  obtain ⟨V10, hV10, hH10, hB10⟩ := ref_new X10 fo fn
  have h10 := hid (on_trans hb hB10)
  have hH10' := hid hH10
  have hlt10 := hid hH10.lt
  have hV10' := hid hV10
  clear hpost hb hV10 hH10 hB10
  have l10 := hid (on_trans l9.out h10.out)
  go_wp2_with fail
  rw [hV10'.out]
  refine (rFind_any A n c _ xs name V10 (hI0.out.on (on_trans o1.out l10.out)) (Nat.le_refl _) hn').mono ?_
  intro e X11 hpost
  obtain ⟨rfl, hb⟩ := hfd.out _ _ _ hpost
  obtain ⟨V11, hV11, hH11, hB11⟩ := ref_new X11 fo fn
  have h11 := hid (on_trans hb hB11)
  have hH11' := hid hH11
  have hlt11 := hid hH11.lt
  have hV11' := hid hV11
  clear hpost hb hV11 hH11 hB11
  go_wp2_with (first
    | (go_at_call 16; rw [hV11'.out]; refine (errNum_any _ _).mono ?_; rintro e w' ⟨rfl, rfl⟩)
    | fail)
  have q9 := hid (on_trans h10.out h11.out)
  have q8 := hid (on_trans h9.out q9.out)
  have q7 := hid (on_trans h8.out q8.out)
  have q6 := hid (on_trans h7.out q7.out)
  have q5 := hid (on_trans h6.out q6.out)
  have lv := hid (on_trans l5.out q5.out)
  have eG := hid (hk5.out.on q5.out)
  have eH := hid (hG5.out.on q5.out)
  have eS := hid (ents_of_own hSf.out (own_on hS6.out q6.out))
  have eT := hid (hS7.out.on q7.out)
  have eD := hid (ents_of_own hDf.out (own_on hD8.out q8.out))
  have eE := hid (hD9.out.on q9.out)
  have hR10 := hid (hH10'.out.below h11.out hlt10.out)
  have hlR := hid hR10.out.lt
  clear hk5 hG5 hS7 hD9 hH10' hlt10 l2 l3 l4 l6 l7 l8 l9 l10
  refine (sameEnts_any A4 A5 G.length c4 c5 _ _ G V11 eG.out eH.out (Nat.le_refl _) (Nat.le_refl _) hGl').mono ?_
  rintro e Z1 ⟨rfl, hb⟩
  have z1 := hid hb
  clear hb eG eH
  go_wp2_with (go_at_call 16; refine (errNum_any _ _).mono ?_; rintro e w' ⟨rfl, rfl⟩)
  refine (sameEnts_any A6 A7 S.length c6 c7 _ _ S Z1 (eS.out.on z1.out) (eT.out.on z1.out) (Nat.le_refl _) (Nat.le_refl _) hSl').mono ?_
  rintro e Z2 ⟨rfl, hb⟩
  have z2 := hid (on_trans z1.out hb)
  clear hb eS eT
  go_wp2_with (go_at_call 16; refine (errNum_any _ _).mono ?_; rintro e w' ⟨rfl, rfl⟩)
  refine (sameEnts_any A8 A9 D.length c8 c9 _ _ D Z2 (eD.out.on z2.out) (eE.out.on z2.out) (Nat.le_refl _) (Nat.le_refl _) hDl').mono ?_
  rintro e Z3 ⟨rfl, hb⟩
  have z3 := hid (on_trans z2.out hb)
  clear hb eD eE
  have r1 := hid ((hR10.out.below z3.out hlR.out).any)
  have r2 := hid ((hH11'.out.below z3.out hlt11.out).any)
  have bd : (ed == ed) = true := by simp
  have bf : (fb == fb) = true := by simp
  go_wp2_with (first
    | ((with_reducible refine at_slot (some 135) ?_); refine wpList_load_any_on (by kernel_rfl) 38 (.tmp 26) rfl ⟨X10.heap.size, 0, none⟩ rfl [.int .i64 fo, .int .i64 fn] _ (by exact r1.out) Try.underlying38 rfl (by exact Try.infoRef) ?_)
    | ((with_reducible refine at_slot (some 136) ?_); refine wpList_load_any_on (by kernel_rfl) 38 (.tmp 28) rfl ⟨X11.heap.size, 0, none⟩ rfl [.int .i64 fo, .int .i64 fn] _ (by exact r2.out) Try.underlying38 rfl (by exact Try.infoRef) ?_)
    | ((with_reducible refine at_slot (some 137) ?_); refine wpList_ref_neq (by kernel_rfl) (.tmp 135) (.tmp 136) _ rfl fo fn rfl rfl ?_)
    | fail)
  obtain ⟨bb, hbb⟩ : ∃ bb, dirB xs = bb := ⟨_, rfl⟩
  have m1 := hid (dirMay_any A' n c' _ xs Z3 ((hF1.out.on lv.out).on z3.out) (Nat.le_refl _) hn')
  rw [hbb] at m1
  refine m1.out.mono ?_
  rintro e Z4 ⟨rfl, hb⟩
  have z4 := hid (on_trans z3.out hb)
  clear hb m1
  have m2 := hid (rDirMay_any A n c _ xs Z4 ((hI0.out.on (on_trans o1.out lv.out)).on z4.out) (Nat.le_refl _) hn')
  rw [hbb] at m2
  clear hbb
  go_wp2_with fail
  refine m2.out.mono ?_
  rintro e Z5 ⟨rfl, hb⟩
  have z5 := hid (on_trans z4.out hb)
  clear hb m2
  have be : (bb == bb) = true := by simp
  have pS := hid (own_on (own_on hS6.out q6.out) z5.out)
  have pD := hid (own_on (own_on hD8.out q8.out) z5.out)
  go_wp2_with fail
  refine (spoilEnts_any pS.out hSf.out rfl hS9).mono ?_
  rintro e Z6 ⟨rfl, hb, hk⟩
  have y6 := hid hb
  have pE := hid (own_past pD.out (fun q hq => hk q (fun e => by
    have a1 := (hS6.out.lt q e).2
    have a2 := (hD8.out.lt q hq).1
    have a3 := h7.out.size
    omega)))
  clear hb hk
  go_wp2_with fail
  refine (spoilEnts_any pE.out hDf.out rfl hD9').mono ?_
  rintro e Z7 ⟨rfl, hb, -⟩
  have y7 := hid (y6.out.trans (hb.mono (Nat.le_trans h6.out.size h7.out.size)))
  clear hb
  have bI := hid ((hI0.out.on (on_trans o1.out l5.out)).below (((q5.out.trans (z5.out.mono q5.out.size)).trans y7.out)))
  have bL := hid ((hL1.out.on l5.out).below (((q5.out.trans (z5.out.mono q5.out.size)).trans y7.out)))
  have hle := hid ((q5.out.trans (z5.out.mono q5.out.size)).trans y7.out).size
  have k1 := hid (KeptEnts_any A' n c' xs A c _ _ bI.out hn hc' bL.out hle.out hle.out)
  go_wp2_with fail
  refine k1.out.mono ?_
  rintro e Z8 ⟨rfl, hb⟩
  have y8 := hid hb
  clear hb k1
  go_wp2_with fail
  refine (awake13_any _).mono ?_
  rintro e Z9 ⟨rfl, hb⟩
  have y9 := hid (on_trans y8.out hb)
  clear hb
  go_wp2_with fail
  go_ret
  have e5 := on_trans hb0.out (on_trans o1.out l5.out)
  refine ⟨rfl, e5.trans (Below.mono ((q5.out.trans (z5.out.mono q5.out.size)).trans (y7.out.trans (y9.out.mono ?_))) e5.size)⟩
  exact hle.out

end Go.Proofs.Ytapegklffglnoaa
