/- Layer 4: the program and the reference alike: numbers out of texts, rows of bytes, what is signed. -/
import Derived.Test.YtmfajekfipfjpaaGreatOtsA
import Derived.Test.YtmfajekfipfjpaaGreatOtsB
import Derived.Test.YtmfajekfipfjpaaGreatBytes
import Derived.Deep.AppendLies
import Derived.Lib.FrozenHead
import Derived.Deep.RegionHeld3
set_option maxRecDepth 100000
namespace Go.Proofs.YtmfajekfipfjpaaGreat
open Go.RowKit

theorem numL_next (l : List UInt8) (k : Nat) (b : UInt8) (h : l[k]? = some b) : numL (l.take (k + 1)) = 256 * numL (l.take k) + b.toNat := by
  have e : l.take (k + 1) = l.take k ++ [b] := by rw [List.take_add_one, h]; rfl
  unfold numL
  rw [e, List.foldl_append]
  rfl

theorem or_byte (a : Int) (b : UInt8) (h0 : 0 ≤ a) (h1 : a < 16777216) : bits .or .i64 (a * 256) (b.toNat : Int) = 256 * a + (b.toNat : Int) := by
  obtain ⟨n, rfl⟩ : ∃ n : Nat, a = n := ⟨a.toNat, by omega⟩
  have hb := b.toNat_lt
  have e1 : ((n : Int) * 256) = ((n * 256 : Nat) : Int) := by simp
  show IntKind.i64.wrap ((BitVec.ofInt 64 ((n : Int) * 256) ||| BitVec.ofInt 64 (b.toNat : Int)).toNat : Int) = _
  rw [e1, BitVec.ofInt_natCast, BitVec.ofInt_natCast, BitVec.toNat_or, BitVec.toNat_ofNat, BitVec.toNat_ofNat, Nat.mod_eq_of_lt (by omega), Nat.mod_eq_of_lt (by omega)]
  have e2 : n * 256 ||| b.toNat = n * 256 + b.toNat := by
    have := Nat.two_pow_add_eq_or_of_lt (i := 8) (b := b.toNat) (by omega) n
    rw [Nat.mul_comm]
    simpa using this.symm
  rw [e2, IntWalk.i64_in _ (by omega)]
  omega

set_option maxHeartbeats 1000000 in
theorem Of_any (s : ByteArray) (w : World) (hs : s.size ≤ 4) : Calls Tryz.prog 82 #[.string s] w fun e w' => e = .returned (.int .i64 (numL s.data.toList : Int)) ∧ w' = w := by
  have hl : s.data.toList.length = s.size := data_length s
  go_enter Tryz.func82, Tryz.ntmps82
  go_wp2_with fail
  go_loopw [7, 3] (fun i x wr => ∃ k : Nat, k ≤ s.size ∧ i = .int .i64 (k : Int) ∧ x = .int .i64 (numL (s.data.toList.take k) : Int) ∧ wr = w) (fun i _ _ => s.size - (intOf i).toNat)
  case atStart => exact ⟨0, Nat.zero_le _, rfl, rfl, rfl⟩
  case round =>
    obtain ⟨k, hk, rfl, rfl, rfl⟩ := hrel
    by_cases hlt : k < s.size
    · have hkn : (k : Int) < (s.size : Int) := by omega
      have hk0 : (0 : Int) ≤ (k : Int) := by omega
      have hix := str_byte s k hlt (k : Int) rfl
      obtain ⟨b, hb⟩ : ∃ b, s.data.toList.getD k 0 = b := ⟨_, rfl⟩
      have hb2 : s.data.toList[k]? = some b := by
        rw [← hb, List.getD, List.getElem?_eq_getElem (by omega)]
        rfl
      rw [hb] at hix
      have hsx : s[k]'hlt = b := by
        rw [← hb]
        have h1 : k < s.data.size := hlt
        simp only [ByteArray.getElem_eq_getElem_data, List.getD]
        rw [Array.getElem?_toList, Array.getElem?_eq_getElem h1]
        rfl
      have hnx := hid (numL_next _ k b hb2)
      have hxl := b.toNat_lt
      have hlt3 : numL (s.data.toList.take k) < 16777216 := by
        have h := numL_lt (s.data.toList.take k)
        rw [List.length_take] at h
        have h3 : min k s.data.toList.length ≤ 3 := by omega
        have := Nat.pow_le_pow_right (n := 256) (by omega) h3
        omega
      generalize numL (s.data.toList.take k) = x at *
      have hor := or_byte (x : Int) b (by omega) (by omega)
      have s1 := IntWalk.i64_in ((x : Int) * 256) (by omega)
      have s3 := IntWalk.i64_in (k : Int) (by omega)
      have s4 := IntWalk.i64_in (b.toNat : Int) (by omega)
      clear hb hb2
      go_wp2_with fail
      go_roundw
      case rel => exact ⟨k + 1, by omega, by go_num, by rw [hnx.out]; exact congrArg (Value.int .i64) (by omega), by first | rfl | trivial⟩
      case measure => simp [intOf]; omega
    · obtain rfl : k = s.size := by omega
      have e : s.data.toList.take s.size = s.data.toList := List.take_of_length_le (by omega)
      rw [e]
      have hno : ¬ (s.size : Int) < (s.size : Int) := by omega
      go_wp2_with fail
      go_ret
      exact ⟨rfl, rfl⟩

end Go.Proofs.YtmfajekfipfjpaaGreat
namespace Go.Proofs.YtmfajekfipfjpaaGreat
open Go.RowKit
open Go.Lib (strCells strCells_length strCells_oneCell)

/-- Block g holds the bytes s, and may be written: c cells are there. -/
def RowB (w : World) (e : TypeId) (s : ByteArray) (g c : Nat) : Prop :=
  ∃ cur fz, w.heap[g]? = some (.cells cur e fz) ∧ (fz.2 = 0 ∨ cur.size ≤ fz.1) ∧ s.size ≤ c ∧ c ≤ maxLen ∧ cur.size = c ∧ cur.toList.take s.size = strCells s

section
variable {P : Program} {w w' : World} {e : TypeId} {s : ByteArray} {g c : Nat}

theorem RowB.lt (h : RowB w e s g c) : g < w.heap.size := by
  obtain ⟨cur, fz, h1, _⟩ := h
  exact (Array.getElem?_eq_some_iff.1 h1).1

theorem RowB.of_block (h : RowB w e s g c) (hb : w'.heap[g]? = w.heap[g]?) : RowB w' e s g c := by
  obtain ⟨cur, fz, h1, h2⟩ := h
  exact ⟨cur, fz, hb.trans h1, h2⟩

theorem RowB.below {B : Nat} (h : RowB w e s g c) (hb : Below B w w') (hg : g < B) : RowB w' e s g c := h.of_block (hb.block g hg)

theorem RowB.cells (h : RowB w e s g c) : ∀ j u, (strCells s)[j]? = some u → w.cell? ((⟨g, 0, none⟩ : Addr).add j) = some u := by
  intro j u hu
  obtain ⟨cur, fz, h1, _, _, _, _, h6⟩ := h
  have hadd : (⟨g, 0, none⟩ : Addr).add j = ⟨g, j, none⟩ := by unfold Addr.add; split <;> simp_all
  rw [hadd, cell_of_row w g j cur e fz h1]
  rw [← h6, List.getElem?_take] at hu
  split at hu
  · simpa using hu
  · cases hu

/-- '[]byte(s)'. -/
theorem run_bytes_row (w : World) (src dst e : TypeId) (s : ByteArray) (hs : P.underlying src = some .string) (hd : P.underlying dst = some (.slice e)) (he : P.underlying e = some (.int .u8)) (hm : s.size ≤ 1000000000000) :
    ∃ c w', (convert src dst (.string s)).run P w = .ok (.slice (some ⟨w.heap.size, 0, none⟩) s.size c) w' ∧ RowB w' e s w.heap.size c ∧ Below w.heap.size w w' := by
  have hge := grownCap_ge w s.size 0 e
  have hcm := grownCap_le_maxLen w s.size 0 e (by unfold maxLen; omega)
  refine ⟨_, _, run_bytes_of_string (P := P) w src dst e s hs hd he, ⟨_, _, heap_alloc_new w.drew _, .inr (Nat.le_refl _), hge, hcm, ?_, ?_⟩, ((Below.refl _ _).drew).alloc (Nat.le_refl _) _⟩
  · unfold bytesRow
    have h1 : s.data.size = s.size := rfl
    simp only [Array.size_append, Array.size_map, Array.size_replicate, h1]
    omega
  · have h1 : (strCells s).length = s.size := strCells_length s
    have h2 : (bytesRow s (grownCap w s.size 0 e)).toList = strCells s ++ List.replicate (grownCap w s.size 0 e - s.size) (.int .u8 0) := by
      unfold bytesRow strCells
      simp
    rw [h2, ← h1]
    exact List.take_left

/-- 'string(b)' of such a row. -/
theorem run_convert_rowB (src dst : TypeId) (hs : P.underlying src = some (.slice e)) (he : P.underlying e = some (.int .u8)) (hd : P.underlying dst = some .string) {n : Nat} (hn : n = s.size) (h : RowB w e s g c) :
    (convert src dst (.slice (some ⟨g, 0, none⟩) n c)).run P w = .ok (.string s) w := by
  subst hn
  have hc := h.cells
  have := run_convert_bytes_back (P := P) w src dst e ⟨g, 0, none⟩ c s.data.toList hs he hd (fun j hj => by
    rw [hc j (.int .u8 (s.data.toList[j].toNat : Int)) (by unfold strCells; rw [List.getElem?_map, List.getElem?_eq_getElem hj]; rfl)])
  rw [data_length] at this
  rw [this]

theorem storeB (P : Program) (g o : Nat) (t : TypeId) (fz : Nat × Nat) : ∀ (vs : List Value) (i : Nat) (cur : Array Value) (w : World), w.heap[g]? = some (.cells cur t fz) → (fz.2 = 0 ∨ cur.size ≤ fz.1) → o + i + vs.length ≤ cur.size → (∀ v ∈ vs, v.oneCell' = true) →
    (storeCells ⟨g, o, none⟩ vs i).run P w = .ok () (w.setRow g (cur.toList.take (o + i) ++ vs ++ cur.toList.drop (o + i + vs.length)).toArray)
  | [], i, cur, w, hg, _, _, _ => by
    simp only [storeCells, List.append_nil, List.length_nil, Nat.add_zero, List.take_append_drop, Array.toArray_toList]
    rw [setRow_self w g cur t fz hg]
    rfl
  | v :: rest, i, cur, w, hg, hfz, hl, h1 => by
    have hi : o + i < cur.size := by simp at hl; omega
    have hadd : (⟨g, o, none⟩ : Addr).add i = ⟨g, o + i, none⟩ := by unfold Addr.add; split <;> simp_all
    have hcell : w.cell? ⟨g, o + i, none⟩ = some cur[o + i] := by simp [World.cell?, hg, hi]
    have hfro : w.frozen? ⟨g, o + i, none⟩ = false := by
      obtain ⟨lo, hi'⟩ := fz
      simp only [World.frozen?, hg, Bool.and_eq_false_iff, decide_eq_false_iff_not]
      simp only at hfz
      rcases hfz with h | h
      · right
        omega
      · left
        omega
    have hst : (store ((⟨g, o, none⟩ : Addr).add i) v).run P w = .ok () (w.setRow g (cur.setIfInBounds (o + i) v)) := by
      rw [hadd, run_store P w _ v _ (h1 v (by simp)), hcell]
      simp [hfro, setCell_eq_setRow w g (o + i) cur t fz v hg]
    have ih := storeB P g o t fz rest (i + 1) (cur.setIfInBounds (o + i) v) (w.setRow g (cur.setIfInBounds (o + i) v)) (setRow_heap w g cur _ t _ hg) (by simpa using hfz) (by simp at hl ⊢; omega) (fun x hx => h1 x (by simp [hx]))
    simp only [storeCells, Sem.run_bind, hst, Result.andThen_ok, ih, setRow_setRow]
    congr 3
    have e := list_seg_step cur.toList (o + i) v rest (by simp at hl ⊢; omega)
    simpa [Array.toList_setIfInBounds, Nat.add_assoc] using e

/-- 'append(out, p...)', p a text. -/
theorem run_append_rowB {w : World} (t u ty e : TypeId) (i : TypeInfo) (ht : P.underlying t = some (.slice e)) (hu : P.underlying u = some .string) (hi : P.info? e = some i) (hz : i.zero = some (.int .u8 0))
    (hsize : i.size = 1) (hby : i.bytes = 1) {s : ByteArray} {g c : Nat} (hR : RowB w e s g c) (p : ByteArray) (hmax : s.size + p.size ≤ 1000000000000) :
    ∃ g' c' w', (Builtin.append_ #[t, u] ty #[.slice (some ⟨g, 0, none⟩) s.size c, .string p]).run P w = .ok (.slice (some ⟨g', 0, none⟩) (s ++ p).size c') w' ∧ RowB w' e (s ++ p) g' c' ∧ w.grownBy w' (some g) ∧ (g' = g ∨ w.heap.size ≤ g') := by
  have hRc := hR.cells
  obtain ⟨cur, fz, hg, hfz, hsc, hcm, hcs, htake⟩ := hR
  have hsz : (s ++ p).size = s.size + p.size := size_append s p
  have hxl : (strCells s).length = s.size := strCells_length s
  have hpl : (strCells p).length = p.size := strCells_length p
  rw [hsz]
  by_cases hroom : s.size + p.size ≤ c
  · have hf := Go.Lib.run_firstCells_string (P := P) w 1 p
    have hst := storeB P g s.size e fz (strCells p) 0 cur w hg hfz (by rw [hpl]; omega) (strCells_oneCell p)
    simp only [Nat.add_zero, strCells_length] at hst
    refine ⟨g, c, _, by simp [Builtin.append_, run_underlying ht, run_underlying hu, sizeOf, typeInfo, hi, hsize, Builtin.lenOf, hroom, hf, Addr.add_lit, hst]; rfl, ⟨_, fz, setRow_heap w g cur _ e _ hg, ?_, by rw [hsz]; exact hroom, hcm, ?_, ?_⟩, ⟨rfl, rfl, rfl, by simp, fun k _ hk => setRow_other w g k _ (fun e => hk (by rw [e]))⟩, .inl rfl⟩
    · rcases hfz with h | h
      · exact .inl h
      · right
        simp only [List.size_toArray, List.length_append, List.length_take, List.length_drop, Array.length_toList, hpl]
        omega
    · simp only [List.size_toArray, List.length_append, List.length_take, List.length_drop, Array.length_toList, hpl]
      omega
    · rw [htake, strCells_append, hsz]
      have e1 : s.size + p.size = (strCells s ++ strCells p).length := by rw [List.length_append, hxl, hpl]
      rw [e1]
      simp only
      rw [← List.append_assoc]
      exact List.take_left
  · have hr := Go.Lib.run_append_grow_string (P := P) w t u ty e i (.int .u8 0) ht hu hi hz ⟨g, 0, none⟩ s.size c (strCells s) (by rw [hsize, hxl]; omega) hRc p (by omega) (by omega) (by rw [hby]; exact growslice_fits (by omega) (by omega))
    have hge := grownCap_ge w (s.size + p.size) c e
    have hcm2 := grownCap_le_maxLen w (s.size + p.size) c e (by unfold maxLen; omega)
    refine ⟨w.heap.size, _, _, hr, ⟨_, (0, 0), heap_alloc_new w.drew _, .inl rfl, by rw [hsz]; exact hge, hcm2, ?_, ?_⟩, ⟨rfl, rfl, rfl, by simp, fun k hk _ => (Below.heap_alloc w.drew _ k hk).trans rfl⟩, .inr (Nat.le_refl _)⟩
    · have hz1 : (Value.int IntKind.u8 0).cells.size = 1 := rfl
      simp only [Array.size_append, List.size_toArray, size_zeroCells, hz1, hxl, hpl]
      omega
    · rw [hsz, strCells_append]
      have e1 : s.size + p.size = (strCells s ++ strCells p).length := by rw [List.length_append, hxl, hpl]
      simp only [Array.toList_append, List.append_assoc]
      rw [← List.append_assoc, e1]
      exact List.take_left

/-- At the operation. -/
theorem wp_append_rowB {o : Oper} {a : Act} {w : World} {K : Act → World → Prop} {Q : Exit → Act → World → Prop} (sl x : Operand) (t u : TypeId)
    (ho : o.op = .call { callee := .builtin .append, args := #[sl, x], argTypes := #[t, u] })
    (e : TypeId) (i : TypeInfo) (ht : P.underlying t = some (.slice e)) (hu : P.underlying u = some .string) (hi : P.info? e = some i) (hz : i.zero = some (.int .u8 0)) (hsize : i.size = 1) (hby : i.bytes = 1)
    (s p : ByteArray) (g c : Nat) (hs : a.eval sl = .slice (some ⟨g, 0, none⟩) s.size c) (hx : a.eval x = .string p) (hR : RowB w e s g c) (hmax : s.size + p.size ≤ 1000000000000) (sp : ByteArray) (hsp : s ++ p = sp)
    (h : ∀ g' c' w', RowB w' e sp g' c' → w.grownBy w' (some g) → (g' = g ∨ w.heap.size ≤ g') → K (a.put o.dst (.slice (some ⟨g', 0, none⟩) sp.size c')) w') : o.wp P a w K Q := by
  subst hsp
  obtain ⟨g', c', w', hr, h2, h3, h4⟩ := run_append_rowB (P := P) (w := w) t u o.type e i ht hu hi hz hsize hby hR p hmax
  unfold Oper.wp execOp
  simp only [ho, resolve, invoke, builtin, Sem.run_bind, Sem.run_pure, Result.andThen_ok, List.map_toArray, List.map_cons, List.map_nil, hs, hx, hr]
  exact h g' c' w' h2 h3 h4

end

end Go.Proofs.YtmfajekfipfjpaaGreat
namespace Go.Proofs.YtmfajekfipfjpaaGreat.Ots
attribute [local irreducible] Sha.compress Sha.blocks Sha.sha Sha.pad

theorem par_kind {kind : Int} {o : Par} (h : par kind = some o) : (kind = 3 ∧ o = ⟨4, 67, 4⟩) ∨ (kind = 4 ∧ o = ⟨8, 34, 0⟩) := by
  unfold par at h
  split at h
  · cases h
    exact .inl ⟨by assumption, rfl⟩
  · split at h
    · cases h
      exact .inr ⟨by assumption, rfl⟩
    · cases h

theorem flat32 (f : Nat → List UInt8) (hf : ∀ i, (f i).length = 32) : ∀ n, ((List.range n).map f).flatten.length = 32 * n
  | 0 => rfl
  | n + 1 => by
    rw [List.range_succ, List.map_append, List.flatten_append, List.length_append, flat32 f hf n]
    simp [hf]
    omega

theorem flat_next (f : Nat → List UInt8) (n : Nat) : ((List.range (n + 1)).map f).flatten = ((List.range n).map f).flatten ++ f n := by
  rw [List.range_succ, List.map_append, List.flatten_append]
  simp

theorem flat_part (f : Nat → List UInt8) (hf : ∀ i, (f i).length = 32) : ∀ n i, i < n → (((List.range n).map f).flatten.drop (32 * i)).take 32 = f i
  | 0, i, h => by omega
  | n + 1, i, h => by
    rw [flat_next]
    have hl := flat32 f hf n
    by_cases hi : i < n
    · rw [List.drop_append_of_le_length (by rw [hl]; omega), List.take_append_of_le_length (by rw [List.length_drop, hl]; omega)]
      exact flat_part f hf n i hi
    · obtain rfl : i = n := by omega
      rw [← hl, List.drop_left, ← hf i, List.take_length]

theorem salt_len (head seed : List UInt8) (h : ∀ t, (Sha.sha t).length = 32) : (salt head seed).length = 32 := h _

/-- What chain i of a signature ends with. -/
def chain (o : Par) (head seed msg : List UInt8) (i : Nat) : List UInt8 := steps head i 0 ((digits o head (salt head seed) msg).getD i 0) (priv head i seed)

theorem steps_32 (h : ∀ t, (Sha.sha t).length = 32) (head : List UInt8) (i f : Nat) (x : List UInt8) (hx : x.length = 32) : ∀ m, (steps head i f m x).length = 32
  | 0 => hx
  | _ + 1 => h _

theorem chain_len (h : ∀ t, (Sha.sha t).length = 32) (o : Par) (head seed msg : List UInt8) (i : Nat) : (chain o head seed msg i).length = 32 := steps_32 h _ _ _ _ (h _) _

theorem sign_eq (o : Par) (kind : Nat) (head seed msg : List UInt8) : sign o kind head seed msg = beL 4 kind ++ (salt head seed ++ ((List.range o.p).map (chain o head seed msg)).flatten) := by
  unfold sign
  rw [List.append_assoc]
  rfl

theorem sign_len (h : ∀ t, (Sha.sha t).length = 32) (o : Par) (kind : Nat) (head seed msg : List UInt8) : (sign o kind head seed msg).length = 36 + 32 * o.p := by
  rw [sign_eq, List.length_append, List.length_append, beL_length, salt_len _ _ h, flat32 _ (chain_len h o head seed msg)]
  omega

theorem sign_kind (o : Par) (kind : Nat) (head seed msg : List UInt8) : (sign o kind head seed msg).take 4 = beL 4 kind := by
  rw [sign_eq]
  exact List.take_left' (beL_length 4 kind)

theorem sign_salt (h : ∀ t, (Sha.sha t).length = 32) (o : Par) (kind : Nat) (head seed msg : List UInt8) : ((sign o kind head seed msg).drop 4).take 32 = salt head seed := by
  rw [sign_eq, List.drop_left' (beL_length 4 kind)]
  exact List.take_left' (salt_len _ _ h)

theorem sign_part (h : ∀ t, (Sha.sha t).length = 32) (o : Par) (kind : Nat) (head seed msg : List UInt8) (i : Nat) (hi : i < o.p) : part (sign o kind head seed msg) i = chain o head seed msg i := by
  unfold part
  have e : 36 + 32 * i = 4 + (32 + 32 * i) := by omega
  rw [e, ← List.drop_drop, sign_eq, List.drop_left' (beL_length 4 kind), ← List.drop_drop, List.drop_left' (salt_len _ _ h)]
  exact flat_part _ (chain_len h o head seed msg) _ _ hi

theorem digit_le (o : Par) (q : List UInt8) (k : Nat) : digit q k o.w ≤ o.top := by
  unfold digit Par.top
  have h0 : 0 < 2 ^ o.w := Nat.pow_pos (by decide)
  have h := Nat.mod_lt ((q.getD (k * o.w / 8) 0).toNat / 2 ^ (8 - o.w - k * o.w % 8)) h0
  omega

theorem digits_le (o : Par) (head s msg : List UInt8) (i : Nat) : (digits o head s msg).getD i 0 ≤ o.top := by
  have hall : ∀ d ∈ digits o head s msg, d ≤ o.top := by
    intro d hd
    unfold digits digitsOf firsts at hd
    rcases List.mem_append.1 hd with h | h
    · obtain ⟨k, _, rfl⟩ := List.mem_map.1 h
      exact digit_le _ _ _
    · obtain ⟨k, _, rfl⟩ := List.mem_map.1 h
      exact digit_le _ _ _
  rw [List.getD]
  cases hg : (digits o head s msg)[i]? with
  | none => exact Nat.zero_le _
  | some d => exact hall d (List.mem_of_getElem? hg)

/-- What was signed makes the public key. -/
theorem cand_sign (h : ∀ t, (Sha.sha t).length = 32) (o : Par) (kind : Nat) (head seed msg : List UInt8) : cand o head msg (sign o kind head seed msg) = pub o head seed := by
  unfold cand pub
  rw [sign_salt h]
  congr 1
  apply List.map_congr_left
  intro i hi
  rw [sign_part h o kind head seed msg i (by simpa using hi)]
  unfold chain
  rw [steps_on]
  congr 1
  have := digits_le o head (salt head seed) msg i
  omega

end Go.Proofs.YtmfajekfipfjpaaGreat.Ots
namespace Go.Proofs.YtmfajekfipfjpaaGreat
open Go.RowKit

/-- What kindOf answers. -/
def kindAns (s : ByteArray) : Value := if s.size < 4 then .tuple #[.agg noC, .bool false] else match Ots.par (numL (s.data.toList.take 4) : Int) with
  | some o => .tuple #[.agg (parC o), .bool (decide (s.size = 36 + 32 * o.p))]
  | none => .tuple #[.agg noC, .bool false]

theorem cut_list (s : ByteArray) (k : Nat) : (s.extract 0 k).data.toList = s.data.toList.take k := by
  simp

set_option maxHeartbeats 1000000 in
theorem kindOf_any (s : ByteArray) (w : World) (hs : s.size ≤ 140737488351232) : Calls Tryz.prog 68 #[.string s] w fun e w' => e = .returned (kindAns s) ∧ Below w.heap.size w w' := by
  obtain ⟨W1, hW1⟩ : ∃ W1, w.alloc (.cells noC 54) = W1 := ⟨_, rfl⟩
  have hH1 : Holds W1 w.heap.size 54 noC.toList := by rw [← hW1]; exact Holds.new w _ _
  have hb1 : Below w.heap.size w W1 := by rw [← hW1]; exact (Below.refl _ _).alloc (Nat.le_refl _) _
  have hW1' := hid hW1
  have hH1' := hid hH1
  have hb1' := hid hb1
  clear hW1 hH1 hb1
  have hsz : (Tryz.prog.info? 54).map (·.size) = some noC.size := par_size noC rfl
  have h1c : noC.all (·.oneCell') = true := by simp [noC, Value.oneCell']
  have hth := hH1'.out.there 0 3 (by decide)
  have hz0 : Holds (W1.setCells w.heap.size 0 noC.toList) w.heap.size 54 noC.toList := by
    have hp := hH1'.out.put 0 noC.toList (by decide)
    rw [put_all _ _ (by decide)] at hp
    exact hp
  have hp9 := hid hz0
  have hb9 := hid (below_setCells hb1'.out w.heap.size 0 noC.toList (Nat.le_refl _))
  clear hz0
  by_cases h4 : s.size < 4
  · have e : kindAns s = .tuple #[.agg noC, .bool false] := by unfold kindAns; rw [if_pos h4]
    rw [e]
    clear e
    have h4i : (s.size : Int) < 4 := by omega
    go_enter Tryz.func68, Tryz.ntmps68
    go_wp2_with (first
      | ((with_reducible refine at_slot (some 2) ?_); refine wpList_run rfl (.pointer (some ⟨w.heap.size, 0, none⟩)) (w.alloc (.cells noC 54)) (by kernel_rfl) ?_; rw [hW1'.out])
      | ((with_reducible refine at_slot (some 9) ?_); refine wpList_run rfl (.agg noC) W1 (by kernel_rfl) ?_)
      | ((with_reducible refine at_slot none ?_); refine wpList_store_mid rfl 54 (.tmp 2) (.tmp 9) rfl w.heap.size 0 noC rfl rfl (by exact hth) (by exact hsz) (by exact h1c) ?_; generalize hW9 : World.setCells _ _ _ _ = W9; rw [hW9] at hp9 hb9))
    exact bodyPost_ret (results_ct rfl _ _ w.heap.size 54 noC (0, 0) _ rfl hp9.out (.bool false) rfl Tryz.underlying54 rfl (by exact hsz)) rfl ⟨rfl, hb9.out⟩
  · have hcl := cut_list s 4
    have hcz : (s.extract 0 4).size = 4 := by
      rw [← data_length, hcl, List.length_take, data_length]
      omega
    have hof := hid (fun W => Of_any (s.extract 0 4) W (by omega))
    rw [hcl] at hof
    have e : kindAns s = match Ots.par (numL (s.data.toList.take 4) : Int) with
      | some o => .tuple #[.agg (parC o), .bool (decide (s.size = 36 + 32 * o.p))]
      | none => .tuple #[.agg noC, .bool false] := by unfold kindAns; rw [if_neg h4]
    rw [e]
    clear e hcl
    have h4i : ¬ (s.size : Int) < 4 := by omega
    have h4j : (4 : Int) ≤ (s.size : Int) := by omega
    generalize hkd : (numL (s.data.toList.take 4) : Int) = kd at *
    cases hp : Ots.par kd with
    | none =>
      have hans : parAns kd = .tuple #[.agg noC, .bool false] := by unfold parAns; rw [hp]
      have hans' := hid hans
      clear hans
      go_enter Tryz.func68, Tryz.ntmps68
      go_wp2_with (first
        | ((with_reducible refine at_slot (some 2) ?_); refine wpList_run rfl (.pointer (some ⟨w.heap.size, 0, none⟩)) (w.alloc (.cells noC 54)) (by kernel_rfl) ?_; rw [hW1'.out])
        | (go_at_call 82; refine (hof.out _).mono ?_; rintro e w' ⟨rfl, rfl⟩))
      refine (OtsOf_any kd _).mono ?_
      rintro e W2 ⟨rfl, hb2⟩
      rw [hans'.out]
      rename_i hK1
      refine hK1 _ _ ?_
      clear hK1
      have hsz2 := par_size noC rfl
      have h1c2 : (noC).all (·.oneCell') = true := by simp [noC, Value.oneCell']
      have hthere := par_there W2 noC rfl
      have hH2 := hid (hH1'.out.below hb2 hH1'.out.lt)
      have hB2 := hid (hb1'.out.trans (hb2.mono hb1'.out.size))
      have hne : w.heap.size ≠ W2.heap.size := by have := hH2.out.lt; omega
      clear hb2
      go_wp2_with (first
        | ((with_reducible refine at_slot (some 4) ?_); refine wpList_run rfl (.pointer (some ⟨W2.heap.size, 0, none⟩)) (W2.alloc (.cells noC 54)) (by kernel_rfl) ?_)
        | ((with_reducible refine at_slot none ?_); refine wpList_store_mid rfl 54 (.tmp 4) (.tmp 15) rfl W2.heap.size 0 (noC) rfl rfl (by exact hthere) (by exact hsz2) (by exact h1c2) ?_; generalize hW7 : World.setCells _ _ _ _ = W7))
      have hP7 := par_new (noC) rfl hW7
      have hH7 := hid (hH2.out.below hP7.2 hH2.out.lt).drew
      have hB7 := hid (hB2.out.trans (hP7.2.mono hB2.out.size)).drew
      have hr7 := h_all hP7.1.drew
      have hth7 := hH7.out.there 0 3 (by decide)
      have hb10 := hid (below_setCells hB7.out w.heap.size 0 noC.toList (Nat.le_refl _))
      have hp10 : Holds (W7.drew.setCells w.heap.size 0 noC.toList) w.heap.size 54 noC.toList := by
        have hp := hH7.out.put 0 noC.toList (by decide)
        rw [put_all _ _ (by decide)] at hp
        exact hp
      have hp10' := hid hp10
      have hX := hid hP7.1.drew
      clear hP7 hW7 hthere hp10
      have hu := Tryz.underlying54
      have hi : (Tryz.prog.info? 54).map (·.size) = some noC.toList.length := hsz2
      refine wp_region_held_drew (S := fun w' => w'.rangeAt W2.heap.size 0 noC.toList) (by kernel_rfl) (by exact hr7) (fun zH => ?_)
      refine tkx 0 _ zH ?_ (hy := yieldsIf_load_mid (by kernel_rfl) _ _ rfl _ _ rfl _ _ (fun w h => h) hu rfl hi); simp only [lp]
      refine tkx 1 (.bool false) zH ?_; simp only [lp]
      refine tkx 2 (.bool false) zH ?_; simp only [lp]
      refine tkx 3 _ zH ?_; simp only [lp]
      refine tkx 4 _ zH ?_; simp only [lp]
      refine tkx 5 _ zH ?_; simp only [lp]
      refine tkx 6 _ zH ?_; simp only [lp]
      refine tkx 7 _ zH ?_; simp only [lp]
      refine tkx 8 (.bool false) zH ?_; simp only [lp]
      refine wpAnyH_ready (rs := [9]) (by kernel_rfl) (by simp) (AllReadyH.cons rfl (fun K hK => ?_) AllReadyH.nil)
      rw [if_pos (by kernel_rfl)]
      refine wp_store_mid _ _ _ rfl w.heap.size 0 noC rfl rfl (by exact hth7) (by exact hsz2) (by exact h1c2) ?_
      have hr8 : (W7.drew.setCells w.heap.size 0 noC.toList).rangeAt W2.heap.size 0 noC.toList := h_all (Holds.fars (hX.out) _ _ _ (fun e => hne e.symm))
      refine hK _ _ hr8 (fun zH => ?_)
      clear hK K zH hr7
      simp only [lp]
      refine tkn 10 (.bool false) rfl (by kernel_rfl) (fun _ _ _ h => h) (yieldsIf_assign _ rfl rfl rfl) hr8 ?_
      simp only [lp]
      generalize World.setCells _ _ _ _ = W10 at *
      refine wpAnyH_done (by kernel_rfl) ?_ _
      go_wp2_with fail
      exact bodyPost_ret (results_ct rfl _ _ w.heap.size 54 noC (0, 0) _ rfl hp10'.out (.bool false) rfl Tryz.underlying54 rfl (by exact hsz)) rfl ⟨rfl, hb10.out⟩
    | some o =>
      have hans : parAns kd = .tuple #[.agg (parC o), .bool true] := by unfold parAns; rw [hp]
      have hans' := hid hans
      clear hans
      obtain ⟨m, ho⟩ := par_ok hp
      have hLen := hid (fun W => Length_any o ho.p100 W)
      go_enter Tryz.func68, Tryz.ntmps68
      go_wp2_with (first
        | ((with_reducible refine at_slot (some 2) ?_); refine wpList_run rfl (.pointer (some ⟨w.heap.size, 0, none⟩)) (w.alloc (.cells noC 54)) (by kernel_rfl) ?_; rw [hW1'.out])
        | (go_at_call 82; refine (hof.out _).mono ?_; rintro e w' ⟨rfl, rfl⟩))
      refine (OtsOf_any kd _).mono ?_
      rintro e W2 ⟨rfl, hb2⟩
      rw [hans'.out]
      rename_i hK1
      refine hK1 _ _ ?_
      clear hK1
      have hsz2 := par_size (parC o) rfl
      have h1c2 : (parC o).all (·.oneCell') = true := by simp [parC, Value.oneCell']
      have hthere := par_there W2 (parC o) rfl
      have hH2 := hid (hH1'.out.below hb2 hH1'.out.lt)
      have hB2 := hid (hb1'.out.trans (hb2.mono hb1'.out.size))
      have hne : w.heap.size ≠ W2.heap.size := by have := hH2.out.lt; omega
      clear hb2
      go_wp2_with (first
        | ((with_reducible refine at_slot (some 4) ?_); refine wpList_run rfl (.pointer (some ⟨W2.heap.size, 0, none⟩)) (W2.alloc (.cells noC 54)) (by kernel_rfl) ?_)
        | ((with_reducible refine at_slot none ?_); refine wpList_store_mid rfl 54 (.tmp 4) (.tmp 15) rfl W2.heap.size 0 (parC o) rfl rfl (by exact hthere) (by exact hsz2) (by exact h1c2) ?_; generalize hW7 : World.setCells _ _ _ _ = W7))
      have hP7 := par_new (parC o) rfl hW7
      have hH7 := hid (hH2.out.below hP7.2 hH2.out.lt).drew
      have hB7 := hid (hB2.out.trans (hP7.2.mono hB2.out.size)).drew
      have hr7 := h_all hP7.1.drew
      have hth7 := hH7.out.there 0 3 (by decide)
      have hO7 := hid hP7.1.drew
      clear hP7 hW7 hthere
      have hX := hid (fun (w' : World) (h : Below W7.drew.heap.size W7.drew w') => h_all (hO7.out.below h hO7.out.lt))
      have hu := Tryz.underlying54
      have hi : (Tryz.prog.info? 54).map (·.size) = some (parC o).toList.length := hsz2
      refine wp_region_held_drew (S := fun w' => w'.rangeAt W2.heap.size 0 (parC o).toList) (by kernel_rfl) (by exact hr7) (fun zH => ?_)
      refine tkx 0 _ zH ?_ (hy := yieldsIf_load_mid (by kernel_rfl) _ _ rfl _ _ rfl _ _ (fun w h => h) hu rfl hi); simp only [lp]
      refine tkx 1 (.bool true) zH ?_; simp only [lp]
      refine tkx 2 (.bool true) zH ?_; simp only [lp]
      refine tkx 3 (.string s) zH ?_ (hy := .inl ⟨by kernel_rfl, fun w _ => rfl⟩); simp only [lp]
      refine tkx 4 (.int .i64 (s.size : Int)) zH ?_; simp only [lp]
      refine tkx 5 _ zH ?_ (hy := yieldsIf_load_mid (by kernel_rfl) _ _ rfl _ _ rfl _ _ (fun w h => h) hu rfl hi); simp only [lp]
      refine wpAnyH_ready (rs := [6]) (by kernel_rfl) (by simp) (AllReadyH.cons rfl (fun K hK => ?_) AllReadyH.nil)
      rw [if_pos (by kernel_rfl)]
      simp only [ly1, ly2, ly3]
      have hK' := hid hK
      clear hK
      go_simp
      refine (hLen.out _).mono ?_
      rintro e W8 ⟨rfl, hb8⟩
      have hH8 := hid (hH7.out.below hb8 hH7.out.lt)
      have hth8 := hH8.out.there 0 3 (by decide)
      have hr8 := hX.out _ hb8
      have hB8 := hid (hB7.out.trans (hb8.mono hB7.out.size))
      have hO8 := hid (hO7.out.below hb8 hO7.out.lt)
      clear hb8
      refine hK'.out _ _ hr8 (fun _ => ?_)
      clear hK' K
      have hcast : ((36 + 32 * o.p : Nat) : Int) = 36 + 32 * (o.p : Int) := by omega
      refine tkn 7 (.bool ((s.size : Int) == ((36 + 32 * o.p : Nat) : Int))) rfl (by kernel_rfl) (fun _ _ _ h => h) (.inl ⟨by kernel_rfl, fun w _ => by go_simp⟩) hr8 ?_
      simp only [lp]
      refine tkn 8 (.bool ((s.size : Int) == ((36 + 32 * o.p : Nat) : Int))) rfl (by kernel_rfl) (fun _ _ _ h => h) (yieldsIf_pick _ _ _ rfl rfl rfl rfl) hr8 ?_
      simp only [lp]
      refine wpAnyH_ready (rs := [9]) (by kernel_rfl) (by simp) (AllReadyH.cons rfl (fun K hK => ?_) AllReadyH.nil)
      rw [if_pos (by kernel_rfl)]
      refine wp_store_mid _ _ _ rfl w.heap.size 0 (parC o) rfl rfl (by exact hth8) (by exact hsz2) (by exact h1c2) ?_
      have hr9 : (W8.setCells w.heap.size 0 (parC o).toList).rangeAt W2.heap.size 0 (parC o).toList := h_all (Holds.fars (hO8.out) _ _ _ (fun e => hne e.symm))
      have hb10 := hid (below_setCells hB8.out w.heap.size 0 (parC o).toList (Nat.le_refl _))
      have hp10 : Holds (W8.setCells w.heap.size 0 (parC o).toList) w.heap.size 54 (parC o).toList := by
        have hp := hH8.out.put 0 (parC o).toList (Nat.le_refl 3)
        have e : put noC.toList 0 (parC o).toList = (parC o).toList := put_all _ _ rfl
        rw [e] at hp
        exact hp
      have hp10' := hid hp10
      clear hp10
      refine hK _ _ hr9 (fun zH => ?_)
      clear hK K zH hr8
      simp only [lp]
      refine tkn 10 (.bool ((s.size : Int) == ((36 + 32 * o.p : Nat) : Int))) rfl (by kernel_rfl) (fun _ _ _ h => h) (yieldsIf_assign _ rfl rfl rfl) hr9 ?_
      simp only [lp]
      generalize World.setCells _ _ _ _ = W10 at *
      have hfin : ((s.size : Int) == ((36 + 32 * o.p : Nat) : Int)) = decide (s.size = 36 + 32 * o.p) := by
        rw [Bool.eq_iff_iff]
        simp
        omega
      rw [hfin]
      clear hfin
      obtain ⟨b, hbe⟩ : ∃ b, decide (s.size = 36 + 32 * o.p) = b := ⟨_, rfl⟩
      have hbe' := hid hbe
      rw [hbe]
      clear hbe
      refine wpAnyH_done (by kernel_rfl) ?_ _
      go_wp2_with fail
      exact bodyPost_ret (results_ct rfl _ _ w.heap.size 54 (parC o) (0, 0) _ rfl hp10'.out (.bool b) rfl Tryz.underlying54 rfl (by exact hsz2)) rfl ⟨by rw [hbe'.out], hb10.out⟩

end Go.Proofs.YtmfajekfipfjpaaGreat
namespace Go.Proofs.YtmfajekfipfjpaaGreat
open Go.RowKit
open Go.Lib (strCells strCells_length strCells_oneCell)
attribute [local irreducible] Sha.compress Sha.blocks Sha.sha Sha.pad
theorem top_wrap2 (k : Nat) (h : k ≤ 8) : IntKind.i64.wrap (IntKind.i64.wrap (2 ^ k) - 1) = ((2 ^ k - 1 : Nat) : Int) := by
  rcases nine h with rfl | rfl | rfl | rfl | rfl | rfl | rfl | rfl | rfl <;> decide +kernel

theorem txt_append (T : ByteArray) (l : List UInt8) : (T ++ txt l).data.toList = T.data.toList ++ l := by rw [data_append, txt_list]

theorem digits_eq (o : Ots.Par) (m : Nat) (hm : 256 / o.w = m) (q : List UInt8) : Ots.digitsOf o q = chk o q m (beL 2 (Ots.left o (sofar o q m) * 2 ^ o.ls)) (o.p - m) := by
  subst hm
  rfl

theorem digits_len (o : Ots.Par) (m : Nat) (ho : ParOk o m) (head s msg : List UInt8) : (Ots.digits o head s msg).length = o.p := by
  unfold Ots.digits
  rw [digits_eq o m ho.m0, chk_length]
  have := ho.mp
  omega

theorem kind_nat {kind : Int} {o : Ots.Par} (h : Ots.par kind = some o) : kind = (kind.toNat : Int) ∧ kind.toNat ≤ 4 := by
  rcases Ots.par_kind h with ⟨rfl, _⟩ | ⟨rfl, _⟩ <;> exact ⟨rfl, by decide⟩

end Go.Proofs.YtmfajekfipfjpaaGreat
