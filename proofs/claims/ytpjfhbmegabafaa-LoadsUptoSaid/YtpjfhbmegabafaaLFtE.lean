/- Layer 12, the program's side: Build. -/
import Derived.Test.YtpjfhbmegabafaaLFtH
import Derived.Test.YtpjfhbmegabafaaLBlock
import Derived.Test.YtpjfhbmegabafaaLRangeOwn
import Derived.Laws.EntriesVeiled
namespace Go.Proofs.Ytpjfhbmegabafaa
open Go.RowKit
open Go.Lib (strCells strCells_length strCells_oneCell)
attribute [local irreducible] Sha.compress Sha.blocks Sha.sha Sha.pad
attribute [local go_sem] Oper.semAt_some

/-- Block i of a file, as an object. -/
def pieceT (data : ByteArray) (i : Nat) : ByteArray := data.extract (i * 64) (i * 64 + min 64 (data.size - i * 64))
def fblkT (data : ByteArray) (i : Nat) : ByteArray := ⟨#[66]⟩ ++ pieceT data i
def blksT (data : ByteArray) : List ByteArray := (List.range (cutN 64 data.size)).map (fblkT data)
def fanT (hs : List (List UInt8)) (i : Nat) : ByteArray := nodeB ⟨#[73]⟩ ((hs.drop (i * 8)).take (min 8 (hs.length - i * 8)))
def fansT (hs : List (List UInt8)) : List ByteArray := (List.range (cutN 8 hs.length)).map (fanT hs)
theorem pieceT_size (data : ByteArray) (i : Nat) : (pieceT data i).size = min 64 (data.size - i * 64) := by
  unfold pieceT
  rw [ByteArray.size_extract]
  omega
theorem fblkT_size (data : ByteArray) (i : Nat) : (fblkT data i).size = 1 + min 64 (data.size - i * 64) := by
  unfold fblkT
  rw [ByteArray.size_append, pieceT_size]
  rfl

/-- From the head of block g on stand a text's bytes. -/
def TextAt (w : World) (g : Nat) (s : ByteArray) : Prop := ∃ (cs : Array Value) (t : TypeId) (f : Nat × Nat), w.heap[g]? = some (.cells cs t f) ∧ ∀ (j : Nat) (u : Value), (strCells s)[j]? = some u → cs[j]? = some u
theorem TextAt.on {w w' : World} {g : Nat} {s : ByteArray} (h : TextAt w g s) (e : w'.heap[g]? = w.heap[g]?) : TextAt w' g s :=
  let ⟨cs, t, f, h1, h2⟩ := h
  ⟨cs, t, f, e.trans h1, h2⟩
theorem TextAt.lt {w : World} {g : Nat} {s : ByteArray} (h : TextAt w g s) : g < w.heap.size :=
  let ⟨_, _, _, h1, _⟩ := h
  (Array.getElem?_eq_some_iff.1 h1).1
theorem TextAt.below {w w' : World} {g : Nat} {s : ByteArray} (h : TextAt w g s) (hb : Below w.heap.size w w') : TextAt w' g s := h.on (hb.block g h.lt)
theorem run_text_row {P : Program} (w : World) (src dst e : TypeId) (s : ByteArray) (hs : P.underlying src = some .string) (hd : P.underlying dst = some (.slice e)) (he : P.underlying e = some (.int .u8)) (hm : s.size ≤ 1000000000000) :
    ∃ c w', (convert src dst (.string s)).run P w = .ok (.slice (some ⟨w.heap.size, 0, none⟩) s.size c) w' ∧ TextAt w' w.heap.size s ∧ s.size ≤ c ∧ c ≤ 9223372036854775807 ∧ Below w.heap.size w w' ∧ w'.heap.size = w.heap.size + 1 := by
  have hge := grownCap_ge w s.size 0 e
  have hcm := grownCap_le_maxLen w s.size 0 e (by unfold maxLen; omega)
  refine ⟨_, _, run_bytes_of_string (P := P) w src dst e s hs hd he, ⟨_, _, _, heap_alloc_new w.drew _, fun j u hu => ?_⟩, hge, hcm, ((Below.refl _ _).drew).alloc (Nat.le_refl _) _, by simp⟩
  have h2 : (bytesRow s (grownCap w s.size 0 e)).toList = strCells s ++ List.replicate (grownCap w s.size 0 e - s.size) (.int .u8 0) := by
    unfold bytesRow strCells
    simp
  rw [← Array.getElem?_toList, h2, List.getElem?_append_left (List.getElem?_eq_some_iff.1 hu).1]
  exact hu
theorem piece_conv {W : World} {g : Nat} {data : ByteArray} (h : TextAt W g data) (i c : Nat) :
    (convert 51 9 (.slice (some ⟨g, i * 64, none⟩) (min 64 (data.size - i * 64)) c)).run Try.prog W = .ok (.string (pieceT data i)) W := by
  obtain ⟨cs, t, f, h1, h2⟩ := h
  have hl : (pieceT data i).data.toList.length = min 64 (data.size - i * 64) := pieceT_size data i
  have hadd : ∀ j : Nat, (⟨g, i * 64, none⟩ : Addr).add j = ⟨g, i * 64 + j, none⟩ := fun j => by unfold Addr.add; split <;> simp_all
  have := run_convert_bytes_back (P := Try.prog) W 51 9 5 ⟨g, i * 64, none⟩ c (pieceT data i).data.toList Try.underlying51 Try.underlying5 Try.underlying9 (fun j hj => by
    rw [hadd, cell_of_row W g _ cs t f h1]
    refine h2 _ _ ?_
    have h1 : i * 64 + j < data.data.toList.length := by
      have e1 : data.data.toList.length = data.size := rfl
      rw [hl] at hj
      omega
    unfold strCells
    rw [List.getElem?_map, List.getElem?_eq_getElem h1]
    congr 2
    simp [pieceT, ByteArray.extract, ByteArray.copySlice])
  rw [hl] at this
  exact this
theorem BuAt.below {w1 W W' : World} {c5 ca c1 B k0 n : Nat} {r0 : Option Nat} {xs0 ds : List ByteArray} {o : Nat → Prop} {A5 A8 : Option Addr} {m5 m8 : Nat} (h : BuAt w1 c5 ca c1 B k0 r0 xs0 ds n o W A5 m5 A8 m8) (h5 : c5 < w1.heap.size ∧ c5 ≠ c1) (ha : ca < w1.heap.size ∧ ca ≠ c1) (hr : ∀ k, r0 = some k → k < w1.heap.size ∧ k ≠ c1) (hc1 : c1 < w1.heap.size) (hb : Below W.heap.size W W') : BuAt w1 c5 ca c1 B k0 r0 xs0 ds n o W' A5 m5 A8 m8 :=
  h.iter (row := none) h5 ha hr ⟨hb.os, hb.tape, hb.output, hb.size, fun k hk _ => hb.block k hk⟩ (fun _r e => nomatch e) hc1
theorem BuAt.re {w1 W : World} {c5 ca c1 B k0 n : Nat} {r0 : Option Nat} {xs0 ds ds' : List ByteArray} {o : Nat → Prop} {A5 A8 : Option Addr} {m5 m8 : Nat} (h : BuAt w1 c5 ca c1 B k0 r0 xs0 ds n o W A5 m5 A8 m8) (e : ds'.take n = ds.take n) : BuAt w1 c5 ca c1 B k0 r0 xs0 ds' n o W A5 m5 A8 m8 :=
  ⟨by rw [e]; exact h.obs, h.acc, by rw [e]; exact h.row, h.turn, h.low, h.own⟩
theorem flat32 {hs : List (List UInt8)} (h : ∀ x ∈ hs, x.length = 32) : hs.flatten.length = 32 * hs.length := by
  rw [flat_len h, Nat.mul_comm]
theorem nodeB_size {mark : ByteArray} {hs : List (List UInt8)} (h : ∀ x ∈ hs, x.length = 32) : (nodeB mark hs).size = mark.size + 1 + 32 * hs.length := by
  show (nodeL mark hs).toArray.size = _
  unfold nodeL
  rw [List.size_toArray, List.length_append, flat32 h]
  have e : (mark ++ be 1 hs.length).data.toList.length = (mark ++ be 1 hs.length).size := rfl
  rw [e, ByteArray.size_append, be_size]
theorem fanT_size {hs : List (List UInt8)} (h : ∀ x ∈ hs, x.length = 32) (i : Nat) : (fanT hs i).size ≤ 300 := by
  unfold fanT
  rw [nodeB_size (fun x hx => h x (List.mem_of_mem_drop (List.mem_of_mem_take hx))), List.length_take]
  show 1 + 1 + _ ≤ 300
  omega
/-- On block b stand hashes. -/
def RowH (w : World) (b : Nat) (hs : List (List UInt8)) : Prop := ∃ (cs : Array Value) (t : TypeId) (f : Nat × Nat), w.heap[b]? = some (.cells cs t f) ∧ ∀ (j : Nat) (u : Value), (hashCells hs)[j]? = some u → cs[j]? = some u
theorem RowH.on {w w' : World} {b : Nat} {hs : List (List UInt8)} (h : RowH w b hs) (e : w'.heap[b]? = w.heap[b]?) : RowH w' b hs :=
  let ⟨cs, t, f, h1, h2⟩ := h
  ⟨cs, t, f, e.trans h1, h2⟩
theorem own_rowH {w : World} {B n c : Nat} {A : Option Addr} {hs : List (List UInt8)} (h : w.ownsRow B 33 32 (.slice A n c) n (hashCells hs)) : ∃ b, (0 < n → A = some ⟨b, 0, none⟩) ∧ (0 < n → RowH w b hs) ∧ (0 < n → (Value.slice A n c).ownBlock = some b) ∧ (0 < n → B ≤ b ∧ b < w.heap.size) ∧ n ≤ c ∧ c ≤ 9223372036854775807 := by
  rcases h.2 with ⟨hn, h0⟩ | ⟨q, cap, cur, hv, hb, hq, hnc, hcm, hcs, htake⟩
  · injection hn with e1 e2 e3
    exact ⟨0, fun h => by omega, fun h => by omega, fun h => by omega, fun h => by omega, by omega, by omega⟩
  · injection hv with e1 e2 e3
    subst e1 e3
    refine ⟨q, fun _ => rfl, fun _ => ⟨cur, _, _, hq, fun j u hu => ?_⟩, fun _ => rfl, fun _ => ⟨hb, (Array.getElem?_eq_some_iff.1 hq).1⟩, hnc, hcm⟩
    rw [← htake, List.getElem?_take] at hu
    split at hu
    · simpa using hu
    · cases hu
theorem cells_piece {hs : List (List UInt8)} (h : ∀ x ∈ hs, x.length = 32) {m k j : Nat} {u : Value} (hu : (hashCells ((hs.drop m).take k))[j]? = some u) : (hashCells hs)[m * 32 + j]? = some u := by
  by_cases hm : m ≤ hs.length
  · have e : hs = hs.take m ++ ((hs.drop m).take k ++ (hs.drop m).drop k) := by rw [List.take_append_drop, List.take_append_drop]
    have hl : (hashCells (hs.take m)).length = m * 32 := by
      rw [hashCells_length _ (fun x hx => h x (List.mem_of_mem_take hx)), List.length_take]
      omega
    rw [e, hashCells_append, hashCells_append, List.getElem?_append_right (by omega), hl, show m * 32 + j - m * 32 = j from by omega, List.getElem?_append_left (List.getElem?_eq_some_iff.1 hu).1]
    exact hu
  · rw [List.drop_eq_nil_of_le (by omega)] at hu
    simp [hashCells] at hu
theorem hash_piece {V : World} {b n : Nat} {hs : List (List UInt8)} (hl : hs.length = n) (h32 : ∀ x ∈ hs, x.length = 32) (h : 0 < n → RowH V b hs) (x : Nat) : Hashs V V.heap.size (some ⟨b, x * 8 * 32, none⟩) (min 8 (n - x * 8)) ((hs.drop (x * 8)).take (min 8 (hs.length - x * 8))) := by
  have h32' : ∀ y ∈ (hs.drop (x * 8)).take (min 8 (hs.length - x * 8)), y.length = 32 := fun y hy => h32 y (List.mem_of_mem_drop (List.mem_of_mem_take hy))
  have hlen : ((hs.drop (x * 8)).take (min 8 (hs.length - x * 8))).length = min 8 (n - x * 8) := by rw [List.length_take, List.length_drop, hl]; omega
  refine ⟨⟨by rw [hashCells_length _ h32', hlen, Nat.mul_comm], ?_⟩, h32'⟩
  by_cases hn : min 8 (n - x * 8) = 0
  · exact .inl hn
  · obtain ⟨cs, t, f, h1, h2⟩ := h (by omega)
    refine .inr ⟨_, rfl, (Array.getElem?_eq_some_iff.1 h1).1, fun j hj => ?_⟩
    rw [show (⟨b, x * 8 * 32, none⟩ : Addr).add j = ⟨b, x * 8 * 32 + j, none⟩ from by unfold Addr.add; split <;> simp_all, cell_of_row V b _ cs t f h1]
    exact h2 _ _ (cells_piece h32 (List.getElem?_eq_getElem hj))
theorem KeepsFrom.belowF {B : Nat} {W W' : World} (h : Below W.heap.size W W') : KeepsFrom B W W' := ⟨h.size, fun k _o _ hk _ => (h.block k (Array.getElem?_eq_some_iff.1 hk).1).trans hk⟩
theorem BuAt.rowput {w1 W W1 : World} {c5 ca c1 B k0 n : Nat} {r0 : Option Nat} {xs0 ds : List ByteArray} {o : Nat → Prop} {A5 A8 : Option Addr} {m5 m8 : Nat} (h : BuAt w1 c5 ca c1 B k0 r0 xs0 ds n o W A5 m5 A8 m8) (hT : TurnS (fun q => q = c5 ∨ (Value.slice A5 (k0 + n) m5).ownBlock = some q) W W1) : W1.ownsRow (w1.heap.size + 2) 33 32 (.slice A8 n m8) n (hashCells ((ds.take n).map obHash)) :=
  rown_block h.row fun g hq => hT.block g (h.row.lt g hq).2 (fun hs => by
    rcases hs with e2 | e2
    · exact own_neF h.row hq h.obs.cell (by decide) e2
    · obtain ⟨cs, h1⟩ := own_hold h.obs.row e2
      exact own_neF h.row hq h1 (by decide) rfl)
theorem yieldsIf_convert {P : Program} {ops : Array Oper} {S : World → Prop} {o : Oper} {a : Act} {v u : Value} (src dst : TypeId) (x : Operand) (hg : o.guard = none) (ho : o.op = .convert src dst x) (hx : a.eval x = v) (hrun : ∀ V, S V → (convert src dst v).run P V = .ok u V) : YieldsIf P ops S o u a :=
  .inl ⟨by simp [Region.wanted, hg], fun V hS => by unfold execOp; simp only [ho, hx, Sem.run_bind, hrun V hS, Result.andThen_ok, Sem.run_pure]⟩
theorem mixedB : Try.prog.follows .mixedOrders = true := by kernel_rfl
section
variable {o : Oper} {a : Act} {w : World} {K : Act → World → Prop} {Q : Exit → Act → World → Prop}
theorem wp_build_oneF (t e : TypeId) (x : Operand) (ho : o.op = .buildSlice t 1 #[(0, x)]) (i : TypeInfo) (z : Value) (ht : Try.prog.underlying t = some (.slice e)) (hi : Try.prog.info? e = some i) (hz : i.zero = some z)
    (H : Array Value) (hx : a.eval x = .agg H) (hn : i.size = H.size) (h0 : 0 < H.size) (h1 : H.size ≤ 1000000) (h : K (a.put o.dst (.slice (some ⟨w.heap.size, 0, none⟩) 1 1)) (w.alloc (.cells H e))) : o.wp Try.prog a w K Q := by
  have hr := run_buildSlice_one (w := w) t e i z ht hi hz H hn h0 h1
  unfold Oper.wp execOp
  simp only [ho, List.map_toArray, List.map_cons, List.map_nil, hx, Sem.run_bind, hr, Result.andThen_ok, Sem.run_pure]
  exact h
set_option maxRecDepth 100000 in
/-- append of one hash to a row of them. -/
theorem wp_appendH (s y : Operand) (ho : o.op = .call { callee := .builtin .append, args := #[s, y], argTypes := #[62, 62] }) (B : Nat) (A : Option Addr) (n c q : Nat) (cs : List Value) (l : List UInt8) (hs : a.eval s = .slice A n c) (hy : a.eval y = .slice (some ⟨q, 0, none⟩) 1 1)
    (h32 : l.length = 32) (h63 : n ≤ 1000000) (hown : w.ownsRow B 33 32 (.slice A n c) n cs) (hq : Holds w q 33 (byteCells l)) (hB : B ≤ w.heap.size)
    (hK : ∀ A2 c2 w', w'.ownsRow B 33 32 (.slice A2 (n + 1) c2) (n + 1) (cs ++ byteCells l) → w.grownBy w' (Value.slice A n c).ownBlock → Fresh w (Value.slice A n c).ownBlock (Value.slice A2 (n + 1) c2).ownBlock → K (a.put o.dst (.slice A2 (n + 1) c2)) w') : o.wp Try.prog a w K Q := by
  obtain ⟨i0, hi0, hz0, hz1, hz2⟩ := info_parts Try.infoHashD
  have hC := hash_cells l h32
  have hcl : ∀ j u, (byteCells l)[j]? = some u → w.cell? ((⟨q, 0, none⟩ : Addr).add j) = some u := fun j u hj => by
    rw [show (⟨q, 0, none⟩ : Addr).add j = ⟨q, j, none⟩ from by unfold Addr.add; split <;> simp_all, hq.cell]
    exact hj
  have hone : ∀ u ∈ byteCells l, u.oneCell' = true := fun u hu => by
    have := hC.one
    rw [Array.all_eq_true_iff_forall_mem] at this
    exact this u (by simpa using hu)
  rw [← hz1] at hown
  obtain ⟨A2, c2, w', hr, hrow, hg, hf⟩ := run_append_fresh (P := Try.prog) w B 62 o.type 33 i0 _ Try.underlying62 hi0 hz0 (by rw [hz1]; rfl) (by rw [hz1]; decide) A n c cs hown ⟨q, 0, none⟩ 1 1 (byteCells l) (by decide) (by rw [hz1, hC.len]) hcl hone (by omega) (by rw [hz2]; omega) hB
  rw [hz1] at hrow
  unfold Oper.wp execOp
  simp only [ho, resolve, invoke, builtin, Sem.run_bind, Sem.run_pure, Result.andThen_ok, List.map_toArray, List.map_cons, List.map_nil, hs, hy, hr]
  exact hK _ _ _ hrow hg hf
end

theorem five_new {w W : World} {g : Nat} (hg : w.heap.size = g) (e : ((((w.alloc (.cells z32 33)).alloc (.cells #[.slice none 0 0] 50)).alloc (.cells #[.func (.func 39) #[] #[.pointer (some ⟨w.heap.size + 1, 0, none⟩)]] 40)).alloc (.cells #[.slice none 0 0] 62)).alloc (.cells #[.slice none 0 0] 62) = W) :
    W.heap.size = g + 5 ∧ Below g w W ∧ Holds W g 33 z32.toList ∧ Holds W (g + 1) 50 [.slice none 0 0] ∧ Holds W (g + 2) 40 [.func (.func 39) #[] #[.pointer (some ⟨g + 1, 0, none⟩)]] ∧ Holds W (g + 3) 62 [.slice none 0 0] ∧ Holds W (g + 4) 62 [.slice none 0 0] := by
  subst hg
  subst e
  refine ⟨by simp, ?_, ?_, ?_, ?_, ?_, ?_⟩
  · exact (((((Below.refl _ _).alloc (Nat.le_refl _) _).alloc (by simp) _).alloc (by simp; omega) _).alloc (by simp; omega) _).alloc (by simp; omega) _
  · exact ((((Holds.new w 33 z32).alloc _).alloc _).alloc _).alloc _
  · have h := (((Holds.new (w.alloc (.cells z32 33)) 50 #[.slice none 0 0]).alloc (.cells #[.func (.func 39) #[] #[.pointer (some ⟨w.heap.size + 1, 0, none⟩)]] 40)).alloc (.cells #[.slice none 0 0] 62)).alloc (.cells #[.slice none 0 0] 62)
    rw [World.size_alloc] at h
    exact h
  · have h := ((Holds.new ((w.alloc (.cells z32 33)).alloc (.cells #[.slice none 0 0] 50)) 40 #[.func (.func 39) #[] #[.pointer (some ⟨w.heap.size + 1, 0, none⟩)]]).alloc (.cells #[.slice none 0 0] 62)).alloc (.cells #[.slice none 0 0] 62)
    simp only [World.size_alloc] at h
    exact h
  · have h := (Holds.new (((w.alloc (.cells z32 33)).alloc (.cells #[.slice none 0 0] 50)).alloc (.cells #[.func (.func 39) #[] #[.pointer (some ⟨w.heap.size + 1, 0, none⟩)]] 40)) 62 #[.slice none 0 0]).alloc (.cells #[.slice none 0 0] 62)
    simp only [World.size_alloc] at h
    exact h
  · have h := Holds.new ((((w.alloc (.cells z32 33)).alloc (.cells #[.slice none 0 0] 50)).alloc (.cells #[.func (.func 39) #[] #[.pointer (some ⟨w.heap.size + 1, 0, none⟩)]] 40)).alloc (.cells #[.slice none 0 0] 62)) 62 #[.slice none 0 0]
    simp only [World.size_alloc] at h
    exact h
theorem five_on {w W W' : World} {g n : Nat} {a b c d e : List Value} {ta tb tc td te : TypeId} (hn : W.heap.size = n) (hb0 : Below g w W) (hb : Below n W W') (h1 : Holds W g ta a) (h2 : Holds W (g + 1) tb b) (h3 : Holds W (g + 2) tc c) (h4 : Holds W (g + 3) td d) (h5 : Holds W (g + 4) te e) :
    Holds W' g ta a ∧ Holds W' (g + 1) tb b ∧ Holds W' (g + 2) tc c ∧ Holds W' (g + 3) td d ∧ Holds W' (g + 4) te e ∧ Below g w W' := by
  subst hn
  exact ⟨h1.below hb h1.lt, h2.below hb h2.lt, h3.below hb h3.lt, h4.below hb h4.lt, h5.below hb h5.lt, hb0.trans (hb.mono (Nat.le_of_lt h1.lt))⟩
/-- The hashes of a file's blocks; of the rows over them; the root. -/
def hsT (data : ByteArray) : List (List UInt8) := (blksT data).map obHash
def fsT (data : ByteArray) : List (List UInt8) := (fansT (hsT data)).map obHash
def rootT (data : ByteArray) : ByteArray := nodeB ⟨#[82]⟩ (fsT data)
def treeT (data : ByteArray) : List ByteArray := blksT data ++ fansT (hsT data) ++ [rootT data]
theorem own_hashs {w : World} {B n c : Nat} {A : Option Addr} {hs : List (List UInt8)} (h : w.ownsRow B 33 32 (.slice A n c) n (hashCells hs)) (h32 : ∀ x ∈ hs, x.length = 32) : Hashs w w.heap.size A n hs := by
  refine ⟨⟨h.1, ?_⟩, h32⟩
  obtain ⟨b, h1, h2, -⟩ := own_rowH h
  by_cases hn : n = 0
  · exact .inl hn
  · obtain ⟨cs, t, f, h3, h4⟩ := h2 (by omega)
    refine .inr ⟨_, h1 (by omega), (Array.getElem?_eq_some_iff.1 h3).1, fun j hj => ?_⟩
    rw [show (⟨b, 0, none⟩ : Addr).add j = ⟨b, j, none⟩ from by unfold Addr.add; split <;> simp_all, cell_of_row w b _ cs t f h3]
    exact h4 _ _ (List.getElem?_eq_getElem hj)
theorem results_ctt {P : Program} {fn : Func} {p q r : Tmp} {ty : TypeId} (h : fn.results = #[.cell p ty, .tmp q, .tmp r]) (tmps : Array Value) (w : World) (g : Nat) (t : TypeId) (cs : Array Value) (fr : Nat × Nat) (d : TypeDesc) (x z : Value)
    (hp : tmps.getD q undef = x) (hq : tmps.getD p undef = .pointer (some ⟨g, 0, none⟩)) (hg : w.heap[g]? = some (.cells cs t fr)) (hr : tmps.getD r undef = z)
    (hu : P.underlying ty = some d) (hd : (match d with | .struct _ | .array _ _ => true | _ => false) = true) (hi : (P.info? ty).map (·.size) = some cs.size) :
    (results fn tmps).run P w = .ok (.tuple #[.agg cs, x, z]) w := by
  have hp' : tmps[q]?.getD undef = x := by simpa using hp
  have hq' : tmps[p]?.getD undef = .pointer (some ⟨g, 0, none⟩) := by simpa using hq
  have hr' : tmps[r]?.getD undef = z := by simpa using hr
  simp [results, h, hp', hq', hr', asAddr, run_loadVar_row w g t ty cs fr d hg hu hd hi]
/-- What Build holds behind its loops. -/
structure EnAt (w : World) (g D D2 : Nat) (A9 : Option Addr) (n2 m9 : Nat) (U : World) (A : Option Addr) (k c : Nat) (xs : List ByteArray) (vs : List Value) : Prop where
  obs : ObsAt U (g + 1) g A k c xs
  low : ∀ q, (Value.slice A k c).ownBlock = some q → g + 5 ≤ q
  fn : Holds U (g + 2) 40 [.func (.func 39) #[] #[.pointer (some ⟨g + 1, 0, none⟩)]]
  fc : Holds U (g + 4) 62 [.slice A9 n2 m9]
  res : Holds U g 33 vs
  d1 : U.heap[D]? = some (.deferred (some []))
  d2 : U.heap[D2]? = some (.deferred (some []))
  bel : Below g w U
section
variable {w U U' : World} {g D D2 n2 m9 k c k' c' : Nat} {A9 A A' : Option Addr} {xs xs' : List ByteArray} {vs : List Value}
theorem EnAt.below (h : EnAt w g D D2 A9 n2 m9 U A k c xs vs) (hb : Below U.heap.size U U') : EnAt w g D D2 A9 n2 m9 U' A k c xs vs :=
  ⟨h.obs.below hb, h.low, h.fn.below hb h.fn.lt, h.fc.below hb h.fc.lt, h.res.below hb h.res.lt, (hb.block D (Array.getElem?_eq_some_iff.1 h.d1).1).trans h.d1, (hb.block D2 (Array.getElem?_eq_some_iff.1 h.d2).1).trans h.d2, h.bel.trans (hb.mono (Nat.le_of_lt h.res.lt))⟩
theorem EnAt.put (h : EnAt w g D D2 A9 n2 m9 U A k c xs vs) (hO : ObsAt U' (g + 1) g A' k' c' xs') (hF : Fresh U (Value.slice A k c).ownBlock (Value.slice A' k' c').ownBlock) (hT : TurnS (fun q => q = g + 1 ∨ (Value.slice A k c).ownBlock = some q) U U') : EnAt w g D D2 A9 n2 m9 U' A' k' c' xs' vs := by
  have keep : ∀ q, q ≠ g + 1 → q < U.heap.size → (g + 5 ≤ q → ∃ ds, U.heap[q]? = some (.deferred ds)) → U'.heap[q]? = U.heap[q]? := fun q h1 h2 h3 => hT.block q h2 (fun hs => by
    rcases hs with e | e
    · exact h1 e
    · obtain ⟨ds, h4⟩ := h3 (h.low q e)
      obtain ⟨_, _, _, h5⟩ := own_cells h.obs.row e
      rw [h4] at h5
      cases h5)
  have hsz := h.fc.lt
  have hne1 : ∀ q, U.heap[q]? = some (.deferred (some [])) → q ≠ g + 1 := fun q hq e => by
    have := h.obs.cell
    unfold Holds at this
    rw [← e, hq] at this
    cases this
  refine ⟨hO, fun q hq => ?_, (keep _ (by omega) h.fn.lt (by omega)).trans h.fn, (keep _ (by omega) h.fc.lt (by omega)).trans h.fc, (keep _ (by omega) h.res.lt (by omega)).trans h.res, (keep D (hne1 D h.d1) (Array.getElem?_eq_some_iff.1 h.d1).1 (fun _ => ⟨_, h.d1⟩)).trans h.d1, (keep D2 (hne1 D2 h.d2) (Array.getElem?_eq_some_iff.1 h.d2).1 (fun _ => ⟨_, h.d2⟩)).trans h.d2, ?_⟩
  · rcases hF with e | ⟨q', e, hq'⟩
    · exact h.low q (by rw [← e]; exact hq)
    · have e3 : some q' = some q := e.symm.trans hq
      have := Option.some.inj e3
      omega
  · exact h.bel.trans (hT.below (fun q hs => hs.elim (fun e => by omega) (fun e => by have := h.low q e; omega)) (by omega))
theorem EnAt.res' (h : EnAt w g D D2 A9 n2 m9 U A k c xs vs) {us : List Value} (hl : vs.length = us.length) (e : U.setCells g 0 us = U') : EnAt w g D D2 A9 n2 m9 U' A k c xs us := by
  have hb : Below g U U' := by rw [← e]; exact below_setCells (Below.refl g U) g 0 us (Nat.le_refl _)
  have hne : ∀ q, q ≠ g → U'.heap[q]? = U.heap[q]? := fun q hq => by rw [← e]; exact cells_far _ _ _ _ _ hq
  have hd : ∀ q, U.heap[q]? = some (.deferred (some [])) → q ≠ g := fun q hq e => by
    have := h.res
    unfold Holds at this
    rw [← e, hq] at this
    cases this
  exact ⟨⟨(hne _ (by omega)).trans h.obs.cell, rown_block h.obs.row fun q hq => hne q (by have := h.low q hq; omega)⟩, h.low, (hne _ (by omega)).trans h.fn, (hne _ (by omega)).trans h.fc, Holds.over (cs := us) h.res hl.symm e, (hne D (hd D h.d1)).trans h.d1, (hne D2 (hd D2 h.d2)).trans h.d2, h.bel.trans hb⟩
theorem EnAt.off (h : EnAt w g D D2 A9 n2 m9 U A k c xs vs) {ac : Nat} {zs us : List Value} (ha : g + 5 ≤ ac) (hz : Holds U ac 33 zs) (e : U.setCells ac 0 us = U') : EnAt w g D D2 A9 n2 m9 U' A k c xs vs := by
  have hb : Below g U U' := by rw [← e]; exact below_setCells (Below.refl g U) ac 0 us (by omega)
  have hne : ∀ q, q ≠ ac → U'.heap[q]? = U.heap[q]? := fun q hq => by rw [← e]; exact cells_far _ _ _ _ _ hq
  have hd : ∀ q, U.heap[q]? = some (.deferred (some [])) → q ≠ ac := fun q hq e => by
    have := hz
    unfold Holds at this
    rw [← e, hq] at this
    cases this
  exact ⟨⟨(hne _ (by omega)).trans h.obs.cell, rown_block h.obs.row fun q hq => hne q (own_neF h.obs.row hq hz (by decide))⟩, h.low, (hne _ (by omega)).trans h.fn, (hne _ (by omega)).trans h.fc, (hne _ (by omega)).trans h.res, (hne D (hd D h.d1)).trans h.d1, (hne D2 (hd D2 h.d2)).trans h.d2, h.bel.trans hb⟩
end

set_option maxRecDepth 100000 in
set_option maxHeartbeats 4000000 in
theorem build_any (data : ByteArray) (hd : data.size ≤ 4096) (w : World) :
    Calls Try.prog 25 #[.string data] w fun e w' => ∃ A m c, e = .returned (.tuple #[.agg (byteCells (obHash (rootT data))).toArray, .slice A m c, .int .i64 0]) ∧ w'.ownsRow 0 9 1 (.slice A m c) m (strs (unlikeT (treeT data))) ∧ (∀ k, (Value.slice A m c).ownBlock = some k → w.heap.size ≤ k) ∧ Below w.heap.size w w' := by
  have hfr : (#[.string data] ++ Array.replicate (Try.f25.ntmps - (#[.string data] : Array Value).size) undef : Array Value) = #[.string data, undef, undef, undef, undef, undef, undef, undef, undef, undef, undef, undef, undef, undef, undef, undef, undef, undef, undef, undef, undef, undef, undef, undef, undef, undef, undef, undef, undef, undef, undef, undef, undef, undef, undef, undef, undef, undef, undef, undef, undef, undef, undef, undef, undef, undef, undef] := by kernel_rfl
  have hd' : ¬ (4096 : Int) < (data.size : Int) := by omega
  obtain ⟨g, hg⟩ : ∃ g, w.heap.size = g := ⟨_, rfl⟩
  have hgw := hid hg
  clear hg
  refine callsIn_wide.1 (callsIn_of_wp_marks (n := 12) Try.func25 rfl trivial ?_ rfl)
  rw [hfr]
  refine wpIn_wide.2 ?_
  clear hfr
  go_wp2_with (first
    | ((with_reducible refine at_slot (some 18) ?_); generalize hW : World.alloc _ _ = W1; obtain ⟨cp, W2, hrun, hT, hc1, hc2, hb, hs⟩ := run_text_row (P := Try.prog) W1 9 51 5 data Try.underlying9 Try.underlying51 Try.underlying5 (by omega); refine wpList_convert rfl 9 51 (.tmp 17) rfl _ _ _ rfl hrun ?_)
    | fail)
  obtain ⟨hs1, hb1, hR1, h51, h61, h71, h81⟩ := five_new hgw.out hW
  simp only [hgw.out, hs1, Nat.add_assoc, Nat.reduceAdd] at hT hs hb ⊢
  obtain ⟨hR2, h52, h62, h72, h82, hb2⟩ := five_on hs1 hb1 hb hR1 h51 h61 h71 h81
  clear hW hR1 h51 h61 h71 h81 hb1 hb hrun hs1 W1
  refine (cutB_any _ _ _ _ W2).mono ?_
  rintro e W3 ⟨rfl, hi, hn, hb, hs3⟩
  simp only [hs, Nat.add_assoc, Nat.reduceAdd] at hi hn hb hs3 ⊢
  obtain ⟨hR3, h53, h63, h73, h83, hb3⟩ := five_on hs hb2 hb hR2 h52 h62 h72 h82
  have hT3 := hid (hT.below (by rw [hs]; exact hb))
  have hs3' := hid hs3
  have hR3' := hid hR3
  have h63' := hid h63
  have h83' := hid h83
  have hb3' := hid hb3
  have h0 := hid (show BuAt W3 (g + 1) (g + 3) (g + 6) g 0 none [] ([].map (fblkT data)) 0 (fun _ => False) W3 none 0 none 0 from ⟨⟨h53, World.ownsRow_nil _ _ _ _⟩, h73, World.ownsRow_nil _ _ _ _, TurnS.refl _ _, (fun k hk => nomatch hk), funext fun k => propext ⟨False.elim, fun h => h.1.elim (fun e => nomatch e) (fun e => nomatch e)⟩⟩)
  have hseq := hid (cutB_all 10 (fun k => k = g + 1 ∨ k = g + 3 ∨ (none : Option Nat) = some k) (g + 6) (g + 7) (some ⟨g + 5, 0, none⟩) ⟨g + 5, 0, none⟩ data.size cp 64 (fun _ => rfl) (by decide) (by decide) (by omega) hc1 hc2 (by rintro (h | h | h) <;> first | omega | cases h) (by rintro (h | h | h) <;> first | omega | cases h) W3 (by rintro k (h | h | h) <;> first | omega | cases h) hi hn)
  clear hi hn hb hb2 hR2 h52 h62 h72 h82 hT hs hR3 h53 h63 h73 h83 hb3 hs3
  go_wp2_with fail
  refine (wpIn_wide (n := 12)).1 ?_
  refine wpIn_range_own rfl (by omega) (gf := 65) (lb := #[.pointer (some ⟨g + 6, 0, none⟩), .pointer (some ⟨g + 7, 0, none⟩)]) rfl trivial (enters_of Try.func65 (by kernel_rfl) rfl)
    hseq.out (Below.refl _ _) (fun _ => rfl) (fun r h => by have := hs3'.out; omega) KeepX.trans (fun q W l o o' _ hl ho => KeepX.put W l o o' hl ho)
    (fun pre o W => ∃ A5 m5 A8 m8, BuAt W3 (g + 1) (g + 3) (g + 6) g 0 none [] (pre.map (fblkT data)) pre.length o W A5 m5 A8 m8)
    (fun s o A B row ⟨A5, m5, A8, m8, h⟩ hg hr => ⟨A5, m5, A8, m8, h.iter (by have := hs3'.out; omega) (by have := hs3'.out; omega) (fun k e => by cases e) hg hr (by have := hs3'.out; omega)⟩)
    (fun s o A k ⟨A5, m5, A8, m8, h⟩ hk => (h.mine hk).1)
    ⟨none, 0, none, 0, h0.out⟩
    (fun x a' _ => a' = { tmps := #[.string data, undef, .pointer (some ⟨g, 0, none⟩), .slice none 0 0, .int .i64 0, .pointer (some ⟨g + 1, 0, none⟩), .pointer (some ⟨g + 2, 0, none⟩), .pointer (some ⟨g + 3, 0, none⟩), .pointer (some ⟨g + 4, 0, none⟩), .slice (some ⟨g + 5, x * 64, none⟩) (min 64 (data.size - x * 64)) (cp - x * 64), undef, undef, .string data, .int .i64 (data.size : Int), .bool false, undef, .func (.func 39) #[] #[.pointer (some ⟨g + 1, 0, none⟩)], .string data, .slice (some ⟨g + 5, 0, none⟩) data.size cp, .func (.func 65) #[] #[.pointer (some ⟨g + 6, 0, none⟩), .pointer (some ⟨g + 7, 0, none⟩)], .slice (some ⟨g + 5, x * 64, none⟩) (min 64 (data.size - x * 64)) (cp - x * 64), undef, undef, undef, undef, undef, undef, undef, undef, undef, undef, undef, undef, undef, undef, undef, undef, undef, undef, undef, undef, undef, undef, undef, undef, undef, undef], defers := [] })
    (fun _ _ _ _ _ hs _ _ => hs) ?assign ?body ?done
  case assign =>
    rintro l pre x o W K hz hI hK
    gi_wp2_with fail
    exact hK _ _ (KeepsFrom.refl _ _) (KeepX.refl _ _) hI rfl
  case body =>
    rintro l pre x o a' W hl hsz ⟨r0, hr0⟩ ⟨A5, m5, A8, m8, hI⟩ rfl hlt
    have hbd := hid (show Below W.heap.size W W.drew from (Below.refl _ _).drew)
    have hs_d := hid (show W.drew.heap.size = W.heap.size from rfl)
    have h5 : g + 1 < W3.heap.size ∧ g + 1 ≠ g + 6 := by have := hs3'.out; omega
    have ha : g + 3 < W3.heap.size ∧ g + 3 ≠ g + 6 := by have := hs3'.out; omega
    have h1 : g + 6 < W3.heap.size := by have := hs3'.out; omega
    have hr : ∀ k, (none : Option Nat) = some k → k < W3.heap.size ∧ k ≠ g + 6 := fun k e => nomatch e
    have hmem := hid (⟨h5, ha, h1, hr⟩ : (g + 1 < W3.heap.size ∧ g + 1 ≠ g + 6) ∧ (g + 3 < W3.heap.size ∧ g + 3 ≠ g + 6) ∧ g + 6 < W3.heap.size ∧ ∀ k, (none : Option Nat) = some k → k < W3.heap.size ∧ k ≠ g + 6)
    have hfar := fun (k : Nat) (hk : k < W3.heap.size) (k1 : k ≠ g + 1) (k2 : k ≠ g + 3) (k3 : k ≠ g + 6) => hI.turn.block k hk (by rintro (h | h | h | h) <;> first | omega | cases h)
    have h6d : Holds W.drew (g + 2) 40 [.func (.func 39) #[] #[.pointer (some ⟨g + 1, 0, none⟩)]] := (hfar (g + 2) (by have := hs3'.out; omega) (by omega) (by omega) (by omega)).trans h63'.out
    have hTd : TextAt W.drew (g + 5) data := hT3.out.on (hfar (g + 5) (by have := hs3'.out; omega) (by omega) (by omega) (by omega))
    have hId := hid (hI.below h5 ha hr h1 hbd.out)
    have hl' := hid hlt
    have hsz' := hid hsz
    clear h5 ha h1 hr hfar hI hlt hsz
    gi_wp2_with fail
    refine wpIn_region_round (S := fun V => Holds V (g + 2) 40 [.func (.func 39) #[] #[.pointer (some ⟨g + 1, 0, none⟩)]] ∧ TextAt V (g + 5) data) mixedB (by kernel_rfl) (fun ⟨_, _, h⟩ => nomatch (show Exit.outgrown = Exit.normal from h.1)) ⟨h6d, hTd⟩ (fun hHeld => ?_)
    clear h6d hTd
    obtain ⟨Wd, hWd⟩ : ∃ V, W.drew = V := ⟨_, rfl⟩
    rw [hWd] at hId hs_d hHeld hbd ⊢
    refine tkx 1 (.func (.func 39) #[] #[.pointer (some ⟨g + 1, 0, none⟩)]) hHeld ?_ (hy := .inl ⟨by kernel_rfl, fun V hS => by have c1 := hS.1.cO 0 _ rfl; go_simp⟩); simp only [ly, Act.put]
    refine tkx 2 (.slice (some ⟨g + 5, x * 64, none⟩) (min 64 (data.size - x * 64)) (cp - x * 64)) hHeld ?_; simp only [ly, Act.put]
    refine tkx 3 (.string (pieceT data x)) hHeld ?_ (hy := yieldsIf_convert 51 9 (.tmp 23) rfl rfl rfl (fun V hS => piece_conv hS.2 x _)); simp only [ly, Act.put]
    refine tkx 4 (.string (⟨#[66]⟩ ++ pieceT data x)) hHeld ?_ (hy := .inl ⟨by kernel_rfl, fun w _ => by go_simp; rw [pieceT_size]; omega⟩); simp only [ly, Act.put]
    obtain ⟨hh, hhe⟩ : ∃ l, obHash (fblkT data x) = l := ⟨_, rfl⟩
    have h32 := hid (show hh.length = 32 from by rw [← hhe]; exact obHash_len _)
    have hhe' := hid hhe
    have hC := hid (hash_cells hh h32.out)
    obtain ⟨i0, hi0, hz0, hz1, hz2⟩ := info_parts Try.infoHashD
    have hi0' := hid hi0
    have hz0' := hid hz0
    have hz1' := hid hz1
    have hd64 := hid (show cutN 64 data.size ≤ 64 from by unfold cutN; omega)
    have hput := hid (show ∀ V, ObsAt V (g + 1) g A5 (0 + pre.length) m5 ([] ++ ((pre ++ [x]).map (fblkT data)).take pre.length) → g ≤ V.heap.size → _ from fun V hO hB => put_any (g + 1) g A5 (0 + pre.length) m5 ([] ++ ((pre ++ [x]).map (fblkT data)).take pre.length) (fblkT data x) (by rw [fblkT_size]; omega) (by have := hl'.out; have := hd64.out; omega) V hO hB)
    rw [hhe] at hput
    have hIe := hid (hId.out.re (ds' := (pre ++ [x]).map (fblkT data)) (by rw [List.map_append, List.take_append_of_le_length (by rw [List.length_map]; exact Nat.le_refl _)]))
    have hlow := hid (show ∀ q, (Value.slice A5 (0 + pre.length) m5).ownBlock = some q → W3.heap.size + 2 ≤ q from fun q e => (hId.out.low q e).elim (fun h => nomatch h) id)
    have hgd := hid (show g ≤ Wd.heap.size from by have := hs_d.out; have := hsz'.out; have := hs3'.out; omega)
    have hgd2 := hid (show g + 8 + 2 ≤ Wd.heap.size from by have := hs_d.out; have := hsz'.out; have := hs3'.out; omega)
    clear hhe hi0 hz0 hz1 hz2 hId
    refine wpAnyH_ready (rs := [0, 5]) (by kernel_rfl) (by simp) (AllReadyH.cons rfl (fun K hK => ?_) (AllReadyH.cons rfl (fun K hK => ?_) AllReadyH.nil))
    · have hK' := hid hK
      clear hK
      rw [if_pos (by kernel_rfl)]
      simp only [ly1, ly3]
      have c3 := (hIe.out.acc).cO 0 _ rfl
      go_simp
      refine hK'.out _ _ hHeld (fun hHeld => ?_)
      clear hK' K c3
      refine wpAnyH_ready (rs := [5]) (by kernel_rfl) (by simp) (AllReadyH.cons rfl (fun K hK => ?_) AllReadyH.nil)
      have hK' := hid hK
      clear hK
      rw [if_pos (by kernel_rfl)]
      simp only [ly1, ly2, ly3]
      go_simp
      refine (hput.out Wd hIe.out.obs hgd.out).mono ?_
      rintro e W4 ⟨rfl, A6, m6, hO, hF, hT⟩
      have hlt4 : ∀ k, k < g + 8 → k ≠ g + 1 → W4.heap[k]? = Wd.heap[k]? := fun k hk hne => hT.block k (by have := hgd2.out; omega) (fun hs => hs.elim hne (fun e => by have := hlow.out k e; have := hs3'.out; omega))
      have hHeld4 : Holds W4 (g + 2) 40 [.func (.func 39) #[] #[.pointer (some ⟨g + 1, 0, none⟩)]] ∧ TextAt W4 (g + 5) data := ⟨(hlt4 (g + 2) (by omega) (by omega)).trans hHeld.1, hHeld.2.on (hlt4 (g + 5) (by omega) (by omega))⟩
      have hacc := hid (show Holds W4 (g + 3) 62 [.slice A8 pre.length m8] from (hlt4 (g + 3) (by omega) (by omega)).trans hIe.out.acc)
      have hrow4 := hid (BuAt.rowput hIe.out hT)
      have hO4 := hid hO
      have hF4 := hid hF
      have hT4 := hid hT
      refine hK'.out _ _ hHeld4 (fun hHeld => ?_)
      clear hK' K hlt4 hHeld4 hO hF hT
      refine wpAnyH_ready (rs := [6]) (by kernel_rfl) (by simp) (AllReadyH.cons rfl (fun K hK => ?_) AllReadyH.nil)
      have hK' := hid hK
      clear hK
      rw [if_pos (by kernel_rfl)]
      simp only [ly1, ly2, ly3]
      refine wp_build_oneF 62 33 (.tmp 26) rfl i0 _ Try.underlying62 hi0'.out hz0'.out (byteCells hh).toArray rfl (by rw [hz1'.out, List.size_toArray, hC.out.len]) (by rw [List.size_toArray, hC.out.len]; decide) (by rw [List.size_toArray, hC.out.len]; decide) ?_
      obtain ⟨W5, hW5⟩ : ∃ V, W4.alloc (.cells (byteCells hh).toArray 33) = V := ⟨_, rfl⟩
      have hb5 : Below W4.heap.size W4 W5 := by rw [← hW5]; exact (Below.refl _ _).alloc (Nat.le_refl _) _
      have hnew := hid (show Holds W5 W4.heap.size 33 (byteCells hh) from by rw [← hW5]; exact Holds.new W4 33 (byteCells hh).toArray)
      have hacc5 := hid (hacc.out.below hb5 hacc.out.lt)
      have hrow5 := hid (rown_onF hrow4.out hb5)
      have hHeld5 : Holds W5 (g + 2) 40 [.func (.func 39) #[] #[.pointer (some ⟨g + 1, 0, none⟩)]] ∧ TextAt W5 (g + 5) data := ⟨hHeld.1.below hb5 hHeld.1.lt, hHeld.2.below hb5⟩
      have hb5' := hid hb5
      rw [hW5]
      refine hK'.out _ _ hHeld5 (fun hHeld => ?_)
      clear hK' K hHeld5 hb5 hW5
      refine wpAnyH_ready (rs := [7]) (by kernel_rfl) (by simp) (AllReadyH.cons rfl (fun K hK => ?_) AllReadyH.nil)
      have hK' := hid hK
      clear hK
      rw [if_pos (by kernel_rfl)]
      simp only [ly1, ly2, ly3]
      refine wp_appendH (.tmp 21) (.tmp 27) rfl (W3.heap.size + 2) A8 pre.length m8 W4.heap.size _ hh rfl rfl h32.out (by have := hl'.out; have := hd64.out; omega) hrow5.out hnew.out (by have := hsz'.out; have := hs_d.out; have := hT4.out.size; have := hb5'.out.size; omega) ?_
      intro A9 m9 W6 hrow6 hg6 hF6
      have hlt6 : ∀ k, k < g + 8 → W6.heap[k]? = W5.heap[k]? := fun k hk => hg6.block k (by have := hgd2.out; have := hT4.out.size; have := hb5'.out.size; omega) (fun e => by have := (hrow5.out.lt k e.symm).1; have := hs3'.out; omega)
      have hacc6 := hid (show Holds W6 (g + 3) 62 [.slice A8 pre.length m8] from (hlt6 (g + 3) (by omega)).trans hacc5.out)
      have hHeld6 : Holds W6 (g + 2) 40 [.func (.func 39) #[] #[.pointer (some ⟨g + 1, 0, none⟩)]] ∧ TextAt W6 (g + 5) data := ⟨(hlt6 (g + 2) (by omega)).trans hHeld.1, hHeld.2.on (hlt6 (g + 5) (by omega))⟩
      have hrow6' := hid hrow6
      have hg6' := hid hg6
      have hF6' := hid hF6
      refine hK'.out _ _ hHeld6 (fun hHeld => ?_)
      clear hK' K hHeld6 hlt6 hrow6 hg6 hF6
      refine wpAnyH_ready (rs := [8]) (by kernel_rfl) (by simp) (AllReadyH.cons rfl (fun K hK => ?_) AllReadyH.nil)
      have hK' := hid hK
      clear hK
      rw [if_pos (by kernel_rfl)]
      simp only [ly1, ly2, ly3]
      have c3 := hacc6.out.cO 0 _ rfl
      have f3 := hacc6.out.frozen 0
      go_simp
      obtain ⟨W7, hW7⟩ : ∃ V, W6.setCell ⟨g + 3, 0, none⟩ (.slice A9 (pre.length + 1) m9) = V := ⟨_, rfl⟩
      have hHeld7 : Holds W7 (g + 2) 40 [.func (.func 39) #[] #[.pointer (some ⟨g + 1, 0, none⟩)]] ∧ TextAt W7 (g + 5) data := by
        rw [← hW7]
        exact ⟨hHeld.1.far ⟨g + 3, 0, none⟩ (by show g + 2 ≠ g + 3; omega) _, hHeld.2.on (heap_setCell_other _ _ _ _ (by show g + 5 ≠ g + 3; omega))⟩
      rw [hW7]
      refine hK'.out _ _ hHeld7 (fun hHeld => ?_)
      clear hK' K hHeld7 c3 f3
      have hend := hid (BuAt.step hIe.out (d := fblkT data x) (by simp) (by omega) (by have := hs3'.out; omega) (by have := hs3'.out; omega) (by have := hsz'.out; have := hs_d.out; omega) hO4.out hF4.out hT4.out (by rw [hhe'.out]; exact hrow6'.out) ⟨hg6'.out.os.trans hb5'.out.os, hg6'.out.tape.trans hb5'.out.tape, hg6'.out.output.trans hb5'.out.output, Nat.le_trans hb5'.out.size hg6'.out.size, fun k hk hne => (hg6'.out.block k (Nat.lt_of_lt_of_le hk hb5'.out.size) hne).trans (hb5'.out.block k hk)⟩ (hF6'.out.low hb5'.out) hW7)
      refine wpAnyH_done (by kernel_rfl) ?_ _
      subst hWd
      obtain ⟨o', e1, e2, e3, e4⟩ := hend.out
      refine ⟨rfl, KeepsFrom.o (W := W) ⟨e4.1, e4.2⟩ _, ⟨e3.1, e3.2⟩, o', fun k hk => e1 k hk, A6, m6, A9, m9, ?_⟩
      rw [List.length_append]
      exact e2
    · have hK' := hid hK
      clear hK
      rw [if_pos (by kernel_rfl)]
      simp only [ly1, ly2, ly3]
      go_simp
      refine (hput.out Wd hIe.out.obs hgd.out).mono ?_
      rintro e W4 ⟨rfl, A6, m6, hO, hF, hT⟩
      have hlt4 : ∀ k, k < g + 8 → k ≠ g + 1 → W4.heap[k]? = Wd.heap[k]? := fun k hk hne => hT.block k (by have := hgd2.out; omega) (fun hs => hs.elim hne (fun e => by have := hlow.out k e; have := hs3'.out; omega))
      have hHeld4 : Holds W4 (g + 2) 40 [.func (.func 39) #[] #[.pointer (some ⟨g + 1, 0, none⟩)]] ∧ TextAt W4 (g + 5) data := ⟨(hlt4 (g + 2) (by omega) (by omega)).trans hHeld.1, hHeld.2.on (hlt4 (g + 5) (by omega) (by omega))⟩
      have hacc := hid (show Holds W4 (g + 3) 62 [.slice A8 pre.length m8] from (hlt4 (g + 3) (by omega) (by omega)).trans hIe.out.acc)
      have hrow4 := hid (BuAt.rowput hIe.out hT)
      have hO4 := hid hO
      have hF4 := hid hF
      have hT4 := hid hT
      refine hK'.out _ _ hHeld4 (fun hHeld => ?_)
      clear hK' K hlt4 hHeld4 hO hF hT
      refine wpAnyH_ready (rs := [0, 6]) (by kernel_rfl) (by simp) (AllReadyH.cons rfl (fun K hK => ?_) (AllReadyH.cons rfl (fun K hK => ?_) AllReadyH.nil))
      · have hK' := hid hK
        clear hK
        rw [if_pos (by kernel_rfl)]
        simp only [ly1, ly3]
        have c3 := (hacc.out).cO 0 _ rfl
        go_simp
        refine hK'.out _ _ hHeld (fun hHeld => ?_)
        clear hK' K c3
        refine wpAnyH_ready (rs := [6]) (by kernel_rfl) (by simp) (AllReadyH.cons rfl (fun K hK => ?_) AllReadyH.nil)
        have hK' := hid hK
        clear hK
        rw [if_pos (by kernel_rfl)]
        simp only [ly1, ly2, ly3]
        refine wp_build_oneF 62 33 (.tmp 26) rfl i0 _ Try.underlying62 hi0'.out hz0'.out (byteCells hh).toArray rfl (by rw [hz1'.out, List.size_toArray, hC.out.len]) (by rw [List.size_toArray, hC.out.len]; decide) (by rw [List.size_toArray, hC.out.len]; decide) ?_
        obtain ⟨W5, hW5⟩ : ∃ V, W4.alloc (.cells (byteCells hh).toArray 33) = V := ⟨_, rfl⟩
        have hb5 : Below W4.heap.size W4 W5 := by rw [← hW5]; exact (Below.refl _ _).alloc (Nat.le_refl _) _
        have hnew := hid (show Holds W5 W4.heap.size 33 (byteCells hh) from by rw [← hW5]; exact Holds.new W4 33 (byteCells hh).toArray)
        have hacc5 := hid (hacc.out.below hb5 hacc.out.lt)
        have hrow5 := hid (rown_onF hrow4.out hb5)
        have hHeld5 : Holds W5 (g + 2) 40 [.func (.func 39) #[] #[.pointer (some ⟨g + 1, 0, none⟩)]] ∧ TextAt W5 (g + 5) data := ⟨hHeld.1.below hb5 hHeld.1.lt, hHeld.2.below hb5⟩
        have hb5' := hid hb5
        rw [hW5]
        refine hK'.out _ _ hHeld5 (fun hHeld => ?_)
        clear hK' K hHeld5 hb5 hW5
        refine wpAnyH_ready (rs := [7]) (by kernel_rfl) (by simp) (AllReadyH.cons rfl (fun K hK => ?_) AllReadyH.nil)
        have hK' := hid hK
        clear hK
        rw [if_pos (by kernel_rfl)]
        simp only [ly1, ly2, ly3]
        refine wp_appendH (.tmp 21) (.tmp 27) rfl (W3.heap.size + 2) A8 pre.length m8 W4.heap.size _ hh rfl rfl h32.out (by have := hl'.out; have := hd64.out; omega) hrow5.out hnew.out (by have := hsz'.out; have := hs_d.out; have := hT4.out.size; have := hb5'.out.size; omega) ?_
        intro A9 m9 W6 hrow6 hg6 hF6
        have hlt6 : ∀ k, k < g + 8 → W6.heap[k]? = W5.heap[k]? := fun k hk => hg6.block k (by have := hgd2.out; have := hT4.out.size; have := hb5'.out.size; omega) (fun e => by have := (hrow5.out.lt k e.symm).1; have := hs3'.out; omega)
        have hacc6 := hid (show Holds W6 (g + 3) 62 [.slice A8 pre.length m8] from (hlt6 (g + 3) (by omega)).trans hacc5.out)
        have hHeld6 : Holds W6 (g + 2) 40 [.func (.func 39) #[] #[.pointer (some ⟨g + 1, 0, none⟩)]] ∧ TextAt W6 (g + 5) data := ⟨(hlt6 (g + 2) (by omega)).trans hHeld.1, hHeld.2.on (hlt6 (g + 5) (by omega))⟩
        have hrow6' := hid hrow6
        have hg6' := hid hg6
        have hF6' := hid hF6
        refine hK'.out _ _ hHeld6 (fun hHeld => ?_)
        clear hK' K hHeld6 hlt6 hrow6 hg6 hF6
        refine wpAnyH_ready (rs := [8]) (by kernel_rfl) (by simp) (AllReadyH.cons rfl (fun K hK => ?_) AllReadyH.nil)
        have hK' := hid hK
        clear hK
        rw [if_pos (by kernel_rfl)]
        simp only [ly1, ly2, ly3]
        have c3 := hacc6.out.cO 0 _ rfl
        have f3 := hacc6.out.frozen 0
        go_simp
        obtain ⟨W7, hW7⟩ : ∃ V, W6.setCell ⟨g + 3, 0, none⟩ (.slice A9 (pre.length + 1) m9) = V := ⟨_, rfl⟩
        have hHeld7 : Holds W7 (g + 2) 40 [.func (.func 39) #[] #[.pointer (some ⟨g + 1, 0, none⟩)]] ∧ TextAt W7 (g + 5) data := by
          rw [← hW7]
          exact ⟨hHeld.1.far ⟨g + 3, 0, none⟩ (by show g + 2 ≠ g + 3; omega) _, hHeld.2.on (heap_setCell_other _ _ _ _ (by show g + 5 ≠ g + 3; omega))⟩
        rw [hW7]
        refine hK'.out _ _ hHeld7 (fun hHeld => ?_)
        clear hK' K hHeld7 c3 f3
        have hend := hid (BuAt.step hIe.out (d := fblkT data x) (by simp) (by omega) (by have := hs3'.out; omega) (by have := hs3'.out; omega) (by have := hsz'.out; have := hs_d.out; omega) hO4.out hF4.out hT4.out (by rw [hhe'.out]; exact hrow6'.out) ⟨hg6'.out.os.trans hb5'.out.os, hg6'.out.tape.trans hb5'.out.tape, hg6'.out.output.trans hb5'.out.output, Nat.le_trans hb5'.out.size hg6'.out.size, fun k hk hne => (hg6'.out.block k (Nat.lt_of_lt_of_le hk hb5'.out.size) hne).trans (hb5'.out.block k hk)⟩ (hF6'.out.low hb5'.out) hW7)
        refine wpAnyH_done (by kernel_rfl) ?_ _
        subst hWd
        obtain ⟨o', e1, e2, e3, e4⟩ := hend.out
        refine ⟨rfl, KeepsFrom.o (W := W) ⟨e4.1, e4.2⟩ _, ⟨e3.1, e3.2⟩, o', fun k hk => e1 k hk, A6, m6, A9, m9, ?_⟩
        rw [List.length_append]
        exact e2
      · have hK' := hid hK
        clear hK
        rw [if_pos (by kernel_rfl)]
        simp only [ly1, ly2, ly3]
        refine wp_build_oneF 62 33 (.tmp 26) rfl i0 _ Try.underlying62 hi0'.out hz0'.out (byteCells hh).toArray rfl (by rw [hz1'.out, List.size_toArray, hC.out.len]) (by rw [List.size_toArray, hC.out.len]; decide) (by rw [List.size_toArray, hC.out.len]; decide) ?_
        obtain ⟨W5, hW5⟩ : ∃ V, W4.alloc (.cells (byteCells hh).toArray 33) = V := ⟨_, rfl⟩
        have hb5 : Below W4.heap.size W4 W5 := by rw [← hW5]; exact (Below.refl _ _).alloc (Nat.le_refl _) _
        have hnew := hid (show Holds W5 W4.heap.size 33 (byteCells hh) from by rw [← hW5]; exact Holds.new W4 33 (byteCells hh).toArray)
        have hacc5 := hid (hacc.out.below hb5 hacc.out.lt)
        have hrow5 := hid (rown_onF hrow4.out hb5)
        have hHeld5 : Holds W5 (g + 2) 40 [.func (.func 39) #[] #[.pointer (some ⟨g + 1, 0, none⟩)]] ∧ TextAt W5 (g + 5) data := ⟨hHeld.1.below hb5 hHeld.1.lt, hHeld.2.below hb5⟩
        have hb5' := hid hb5
        rw [hW5]
        refine hK'.out _ _ hHeld5 (fun hHeld => ?_)
        clear hK' K hHeld5 hb5 hW5
        refine wpAnyH_ready (rs := [0]) (by kernel_rfl) (by simp) (AllReadyH.cons rfl (fun K hK => ?_) AllReadyH.nil)
        have hK' := hid hK
        clear hK
        rw [if_pos (by kernel_rfl)]
        simp only [ly1, ly3]
        have c3 := (hacc5.out).cO 0 _ rfl
        go_simp
        refine hK'.out _ _ hHeld (fun hHeld => ?_)
        clear hK' K c3
        refine wpAnyH_ready (rs := [7]) (by kernel_rfl) (by simp) (AllReadyH.cons rfl (fun K hK => ?_) AllReadyH.nil)
        have hK' := hid hK
        clear hK
        rw [if_pos (by kernel_rfl)]
        simp only [ly1, ly2, ly3]
        refine wp_appendH (.tmp 21) (.tmp 27) rfl (W3.heap.size + 2) A8 pre.length m8 W4.heap.size _ hh rfl rfl h32.out (by have := hl'.out; have := hd64.out; omega) hrow5.out hnew.out (by have := hsz'.out; have := hs_d.out; have := hT4.out.size; have := hb5'.out.size; omega) ?_
        intro A9 m9 W6 hrow6 hg6 hF6
        have hlt6 : ∀ k, k < g + 8 → W6.heap[k]? = W5.heap[k]? := fun k hk => hg6.block k (by have := hgd2.out; have := hT4.out.size; have := hb5'.out.size; omega) (fun e => by have := (hrow5.out.lt k e.symm).1; have := hs3'.out; omega)
        have hacc6 := hid (show Holds W6 (g + 3) 62 [.slice A8 pre.length m8] from (hlt6 (g + 3) (by omega)).trans hacc5.out)
        have hHeld6 : Holds W6 (g + 2) 40 [.func (.func 39) #[] #[.pointer (some ⟨g + 1, 0, none⟩)]] ∧ TextAt W6 (g + 5) data := ⟨(hlt6 (g + 2) (by omega)).trans hHeld.1, hHeld.2.on (hlt6 (g + 5) (by omega))⟩
        have hrow6' := hid hrow6
        have hg6' := hid hg6
        have hF6' := hid hF6
        refine hK'.out _ _ hHeld6 (fun hHeld => ?_)
        clear hK' K hHeld6 hlt6 hrow6 hg6 hF6
        refine wpAnyH_ready (rs := [8]) (by kernel_rfl) (by simp) (AllReadyH.cons rfl (fun K hK => ?_) AllReadyH.nil)
        have hK' := hid hK
        clear hK
        rw [if_pos (by kernel_rfl)]
        simp only [ly1, ly2, ly3]
        have c3 := hacc6.out.cO 0 _ rfl
        have f3 := hacc6.out.frozen 0
        go_simp
        obtain ⟨W7, hW7⟩ : ∃ V, W6.setCell ⟨g + 3, 0, none⟩ (.slice A9 (pre.length + 1) m9) = V := ⟨_, rfl⟩
        have hHeld7 : Holds W7 (g + 2) 40 [.func (.func 39) #[] #[.pointer (some ⟨g + 1, 0, none⟩)]] ∧ TextAt W7 (g + 5) data := by
          rw [← hW7]
          exact ⟨hHeld.1.far ⟨g + 3, 0, none⟩ (by show g + 2 ≠ g + 3; omega) _, hHeld.2.on (heap_setCell_other _ _ _ _ (by show g + 5 ≠ g + 3; omega))⟩
        rw [hW7]
        refine hK'.out _ _ hHeld7 (fun hHeld => ?_)
        clear hK' K hHeld7 c3 f3
        have hend := hid (BuAt.step hIe.out (d := fblkT data x) (by simp) (by omega) (by have := hs3'.out; omega) (by have := hs3'.out; omega) (by have := hsz'.out; have := hs_d.out; omega) hO4.out hF4.out hT4.out (by rw [hhe'.out]; exact hrow6'.out) ⟨hg6'.out.os.trans hb5'.out.os, hg6'.out.tape.trans hb5'.out.tape, hg6'.out.output.trans hb5'.out.output, Nat.le_trans hb5'.out.size hg6'.out.size, fun k hk hne => (hg6'.out.block k (Nat.lt_of_lt_of_le hk hb5'.out.size) hne).trans (hb5'.out.block k hk)⟩ (hF6'.out.low hb5'.out) hW7)
        refine wpAnyH_done (by kernel_rfl) ?_ _
        subst hWd
        obtain ⟨o', e1, e2, e3, e4⟩ := hend.out
        refine ⟨rfl, KeepsFrom.o (W := W) ⟨e4.1, e4.2⟩ _, ⟨e3.1, e3.2⟩, o', fun k hk => e1 k hk, A6, m6, A9, m9, ?_⟩
        rw [List.length_append]
        exact e2
  case done =>
    rintro D xs o W hD rfl ⟨A5, m5, A8, m8, hI⟩ hK
    have hlr : (List.range (cutN 64 data.size)).length = cutN 64 data.size := List.length_range
    rw [hlr, show (List.range (cutN 64 data.size)).map (fblkT data) = blksT data from rfl] at hI
    have hn64 : cutN 64 data.size ≤ 64 := by unfold cutN; omega
    have hbl : (blksT data).length = cutN 64 data.size := by unfold blksT; rw [List.length_map, List.length_range]
    obtain ⟨n1, hn1⟩ : ∃ n, cutN 64 data.size = n := ⟨_, rfl⟩
    rw [hn1] at hI hn64 hbl
    have hOb : ObsAt W (g + 1) g A5 n1 m5 (blksT data) := by
      have h := hI.obs
      rw [Nat.zero_add, List.nil_append, List.take_of_length_le (by omega)] at h
      exact h
    obtain ⟨hs, hhs⟩ : ∃ l, (blksT data).map obHash = l := ⟨_, rfl⟩
    have hsl : hs.length = n1 := by rw [← hhs, List.length_map, hbl]
    have hs32 : ∀ x ∈ hs, x.length = 32 := by
      rw [← hhs]
      intro x hx
      obtain ⟨y, -, rfl⟩ := List.mem_map.1 hx
      exact obHash_len y
    have hrow := hI.row
    rw [List.take_of_length_le (by omega), hhs] at hrow
    obtain ⟨b, hb1, hb2, hb3, hb4, hm81, hm82⟩ := own_rowH hrow
    have hW0 := hs3'.out
    have hlow : ∀ k, (Value.slice A5 n1 m5).ownBlock = some k → W3.heap.size + 2 ≤ k ∧ k < W.heap.size := fun k e => ⟨(hI.low k (by rw [Nat.zero_add]; exact e)).elim (fun h => nomatch h) id, (hOb.row.lt k e).2⟩
    have hbo : 0 < n1 → (Value.slice A5 n1 m5).ownBlock ≠ some b := fun h e => by
      obtain ⟨cs, h1⟩ := own_hold hOb.row e
      exact own_neF hrow (hb3 h) h1 (by decide) rfl
    have hfar : ∀ k, k < W3.heap.size → k ≠ g + 1 → k ≠ g + 3 → k ≠ g + 6 → W.heap[k]? = W3.heap[k]? := fun k hk k1 k2 k3 => hI.turn.block k hk (by rintro (h | h | h | h) <;> first | omega | cases h)
    have hsW : W3.heap.size ≤ W.heap.size := hI.turn.size
    obtain ⟨q, hq⟩ : ∃ q, W.heap.size = q := ⟨_, rfl⟩
    have hDq : D < q := by rw [← hq]; exact (Array.getElem?_eq_some_iff.1 hK).1
    have hDb := hid (show ∀ k cs (t : TypeId) (f : Nat × Nat), W.heap[k]? = some (.cells cs t f) → k ≠ D from fun k cs t f h e => by rw [e, hK] at h; cases h)
    have hacc := hid hI.acc
    have hO1 := hid hOb
    have hT1 := hid hI.turn
    have hK1 := hid hK
    have hsl' := hid hsl
    have hs32' := hid hs32
    have hb1' := hid hb1
    have hb2' := hid hb2
    have hfix := hid (show ∀ k, (k = g + 2 ∨ (0 < n1 ∧ k = b)) → k < q ∧ k ≠ g + 1 ∧ k ≠ g + 4 ∧ (Value.slice A5 n1 m5).ownBlock ≠ some k from fun k hk => by
      rcases hk with rfl | ⟨h, rfl⟩
      · exact ⟨by omega, by omega, by omega, fun e => by have := hlow _ e; omega⟩
      · have := hb4 h
        exact ⟨by omega, by omega, by omega, hbo h⟩)
    have h6W := hid (show Holds W (g + 2) 40 [.func (.func 39) #[] #[.pointer (some ⟨g + 1, 0, none⟩)]] from (hfar (g + 2) (by omega) (by omega) (by omega) (by omega)).trans h63'.out)
    have h8W := hid (show Holds W (g + 4) 62 [.slice none 0 0] from (hfar (g + 4) (by omega) (by omega) (by omega) (by omega)).trans h83'.out)
    have hRW := hid (show Holds W g 33 z32.toList from (hfar g (by omega) (by omega) (by omega) (by omega)).trans hR3'.out)
    have hlow' := hid hlow
    have hgq := hid (show g + 9 ≤ q from by have := (Array.getElem?_eq_some_iff.1 hK).1; have := hD; have := hT1.out.size; omega)
    have cc3 := hacc.out.cO 0 _ rfl
    clear hlr hbl hOb hrow hfar hlow hbo hb3 hb4 hK hI hsW hb1 hb2 hsl hs32
    go_wp2_with fail
    refine (cutH_any _ _ _ _ W).mono ?_
    rintro e W8 ⟨rfl, hi, hn, hb, hs8⟩
    rw [hq] at hi hn hb hs8 ⊢
    have hlt8 : ∀ k, k < q → W8.heap[k]? = W.heap[k]? := fun k hk => hb.block k hk
    have hO8 := hid (hO1.out.below (by rw [hq]; exact hb))
    have h68 := hid (show Holds W8 (g + 2) 40 [.func (.func 39) #[] #[.pointer (some ⟨g + 1, 0, none⟩)]] from (hlt8 _ (by have := hgq.out; omega)).trans h6W.out)
    have h88 : Holds W8 (g + 4) 62 [.slice none 0 0] := (hlt8 _ (by have := hgq.out; omega)).trans h8W.out
    have hR8 := hid (show Holds W8 g 33 z32.toList from (hlt8 _ (by have := hgq.out; omega)).trans hRW.out)
    have hD8 := hid (show W8.heap[D]? = some (.deferred (some [])) from (hlt8 D hDq).trans hK1.out)
    have hT8 := hid (show TurnS (fun k => k = g + 1 ∨ k = g + 3 ∨ k = g + 6 ∨ (none : Option Nat) = some k) W3 W8 from hT1.out.up (by rw [hq]; exact hb))
    have hb28 := hid (show 0 < n1 → RowH W8 b hs from fun h => (hb2'.out h).on (hlt8 b (hfix.out b (.inr ⟨h, rfl⟩)).1))
    have hs8' := hid hs8
    have h0b := hid (show BuAt W8 (g + 1) (g + 4) q g n1 (Value.slice A5 n1 m5).ownBlock (blksT data) ([].map (fanT hs)) 0 (fun _ => False) W8 A5 m5 none 0 from ⟨⟨hO8.out.cell, by have h := hO8.out.row; rw [List.map_nil, List.take_nil, List.append_nil]; exact h⟩, h88, World.ownsRow_nil _ _ _ _, TurnS.refl _ _, (fun k hk => .inl hk), funext fun k => propext ⟨False.elim, fun h => h.1.elim (fun e => by have := (hlow'.out k e).2; rw [hq] at this; have := h.2; omega) (fun e => nomatch e)⟩⟩)
    have hseq2 := hid (cutH_all 10 (fun k => k = g + 1 ∨ k = g + 4 ∨ (Value.slice A5 n1 m5).ownBlock = some k) q (q + 1) A8 ⟨b, 0, none⟩ n1 m8 8 hb1'.out (by decide) (by decide) (by omega) hm81 hm82 (by rintro (h | h | h) <;> first | (have := hgq.out; omega) | (have := (hlow'.out _ h).2; omega)) (by rintro (h | h | h) <;> first | (have := hgq.out; omega) | (have := (hlow'.out _ h).2; omega)) W8 (by rintro k (h | h | h) <;> first | (have := hgq.out; omega) | (have := (hlow'.out _ h).2; omega)) hi hn)
    have hmem := hid (show (g + 1 < W8.heap.size ∧ g + 1 ≠ q) ∧ (g + 4 < W8.heap.size ∧ g + 4 ≠ q) ∧ q < W8.heap.size ∧ ∀ k, (Value.slice A5 n1 m5).ownBlock = some k → k < W8.heap.size ∧ k ≠ q from ⟨by have := hgq.out; omega, by have := hgq.out; omega, by omega, fun k e => by have := (hlow'.out _ e).2; omega⟩)
    have hn8 := hid (show cutN 8 n1 ≤ 64 from by unfold cutN; omega)
    clear hi hn hb hs8 hlt8 h88
    go_wp2_with fail
    refine (wpIn_wide (n := 12)).1 ?_
    refine wpIn_range_own rfl (by omega) (gf := 66) (lb := #[.pointer (some ⟨q, 0, none⟩), .pointer (some ⟨q + 1, 0, none⟩)]) rfl trivial (enters_of Try.func66 (by kernel_rfl) rfl)
      hseq2.out (Below.refl _ _) (fun _ => rfl) (fun r h => by have := hs8'.out; omega) KeepX.trans (fun q W l o o' _ hl ho => KeepX.put W l o o' hl ho)
      (fun pre o V => ∃ A6 m6 A9 m9, BuAt W8 (g + 1) (g + 4) q g n1 (Value.slice A5 n1 m5).ownBlock (blksT data) (pre.map (fanT hs)) pre.length o V A6 m6 A9 m9)
      (fun s o A B row ⟨A6, m6, A9, m9, h⟩ hg hr => ⟨A6, m6, A9, m9, h.iter hmem.out.1 hmem.out.2.1 hmem.out.2.2.2 hg hr hmem.out.2.2.1⟩)
      (fun s o A k ⟨A6, m6, A9, m9, h⟩ hk => (h.mine hk).1)
      ⟨A5, m5, none, 0, h0b.out⟩
      (fun x a' _ => a' = { tmps := #[.string data, undef, .pointer (some ⟨g, 0, none⟩), .slice none 0 0, .int .i64 0, .pointer (some ⟨g + 1, 0, none⟩), .pointer (some ⟨g + 2, 0, none⟩), .pointer (some ⟨g + 3, 0, none⟩), .pointer (some ⟨g + 4, 0, none⟩), undef, .slice (some ⟨b, x * 8 * 32, none⟩) (min 8 (n1 - x * 8)) (m8 - x * 8), undef, .string data, .int .i64 (data.size : Int), .bool false, undef, .func (.func 39) #[] #[.pointer (some ⟨g + 1, 0, none⟩)], .string data, .slice (some ⟨g + 5, 0, none⟩) data.size cp, .func (.func 65) #[] #[.pointer (some ⟨g + 6, 0, none⟩), .pointer (some ⟨g + 7, 0, none⟩)], undef, undef, undef, undef, undef, undef, undef, undef, undef, .slice A8 n1 m8, .func (.func 66) #[] #[.pointer (some ⟨q, 0, none⟩), .pointer (some ⟨q + 1, 0, none⟩)], .slice (some ⟨b, x * 8 * 32, none⟩) (min 8 (n1 - x * 8)) (m8 - x * 8), undef, undef, undef, undef, undef, undef, undef, undef, undef, undef, undef, undef, undef, undef, undef], defers := [] })
      (fun _ _ _ _ _ hs _ _ => hs) ?assign2 ?body2 ?done2
    case assign2 =>
      rintro l pre x o V K hz hI hK
      gi_wp2_with fail
      exact hK _ _ (KeepsFrom.refl _ _) (KeepX.refl _ _) hI rfl
    case body2 =>
      clear hT3 hR3' h63' h83' hb3' h0 hseq hO1 hT1 hK1 h6W h8W hRW hacc
      obtain ⟨Wz, hWz⟩ : ∃ V, V = W := ⟨_, rfl⟩
      rintro l pre x o a' W hl hsz ⟨r0, hr0⟩ ⟨Ao, mo, A8', m8', hI⟩ rfl hlt
      have hbd := hid (show Below W.heap.size W W.drew from (Below.refl _ _).drew)
      have hs_d := hid (show W.drew.heap.size = W.heap.size from rfl)
      have hHeld0 : ∀ k, (k = g + 2 ∨ (0 < n1 ∧ k = b)) → W.drew.heap[k]? = W8.heap[k]? := fun k hk => hI.turn.block k (by have := (hfix.out k hk).1; have := hs8'.out; omega) (fun h => by
        obtain ⟨z1, z2, z3, z4⟩ := hfix.out k hk
        rcases h with h | h | h | h
        · exact z2 h
        · exact z3 h
        · omega
        · exact z4 h)
      have hIe := hid ((hI.below hmem.out.1 hmem.out.2.1 hmem.out.2.2.2 hmem.out.2.2.1 hbd.out).re (ds' := (pre ++ [x]).map (fanT hs)) (by rw [List.map_append, List.take_append_of_le_length (by rw [List.length_map]; exact Nat.le_refl _)]))
      have hl' := hid hlt
      have hsz' := hid hsz
      have hqd := hid (show q + 2 ≤ W.drew.heap.size from by have := hs8'.out; have := hs_d.out; omega)
      have hlow2 := hid (show ∀ k, (Value.slice Ao (n1 + pre.length) mo).ownBlock = some k → (Value.slice A5 n1 m5).ownBlock = some k ∨ W8.heap.size + 2 ≤ k from hI.low)
      clear hI hlt hsz
      gi_wp2_with fail
      refine wpIn_region_round (S := fun V => ∀ k, (k = g + 2 ∨ (0 < n1 ∧ k = b)) → V.heap[k]? = W8.heap[k]?) mixedB (by kernel_rfl) (fun ⟨_, _, h⟩ => nomatch (show Exit.outgrown = Exit.normal from h.1)) hHeld0 (fun hHeld => ?_)
      clear hHeld0
      obtain ⟨Wd, hWd⟩ : ∃ V, W.drew = V := ⟨_, rfl⟩
      rw [hWd] at hIe hs_d hHeld hbd hqd ⊢
      refine tkx 1 (.func (.func 39) #[] #[.pointer (some ⟨g + 1, 0, none⟩)]) hHeld ?_ (hy := .inl ⟨by kernel_rfl, fun V hS => by have c1 := Holds.cO (show Holds V (g + 2) 40 [.func (.func 39) #[] #[.pointer (some ⟨g + 1, 0, none⟩)]] from (hS (g + 2) (.inl rfl)).trans h68.out) 0 _ rfl; go_simp⟩); simp only [ly, Act.put]
      refine tkx 2 (.slice (some ⟨b, x * 8 * 32, none⟩) (min 8 (n1 - x * 8)) (m8 - x * 8)) hHeld ?_; simp only [ly, Act.put]
      obtain ⟨hh, hhe⟩ : ∃ l, obHash (fanT hs x) = l := ⟨_, rfl⟩
      have h32 := hid (show hh.length = 32 from by rw [← hhe]; exact obHash_len _)
      have hhe' := hid hhe
      have hC := hid (hash_cells hh h32.out)
      obtain ⟨i0, hi0, hz0, hz1, hz2⟩ := info_parts Try.infoHashD
      have hi0' := hid hi0
      have hz0' := hid hz0
      have hz1' := hid hz1
      have hput := hid (show ∀ V, ObsAt V (g + 1) g Ao (n1 + pre.length) mo (blksT data ++ ((pre ++ [x]).map (fanT hs)).take pre.length) → g ≤ V.heap.size → _ from fun V hO hB => put_any (g + 1) g Ao (n1 + pre.length) mo (blksT data ++ ((pre ++ [x]).map (fanT hs)).take pre.length) (fanT hs x) (by have := fanT_size hs32'.out x; omega) (by have := hl'.out; have := hn8.out; omega) V hO hB)
      rw [hhe] at hput
      clear hhe hi0 hz0 hz1 hz2
      refine wpAnyH_ready (rs := [0, 3]) (by kernel_rfl) (by simp) (AllReadyH.cons rfl (fun K hK => ?_) (AllReadyH.cons rfl (fun K hK => ?_) AllReadyH.nil))
      · have hK' := hid hK
        clear hK
        rw [if_pos (by kernel_rfl)]
        simp only [ly1, ly3]
        have c3 := (hIe.out.acc).cO 0 _ rfl
        go_simp
        refine hK'.out _ _ hHeld (fun hHeld => ?_)
        clear hK' K c3
        refine wpAnyH_ready (rs := [3]) (by kernel_rfl) (by simp) (AllReadyH.cons rfl (fun K hK => ?_) AllReadyH.nil)
        have hK' := hid hK
        clear hK
        rw [if_pos (by kernel_rfl)]
        simp only [ly1, ly2, ly3]
        go_simp
        refine (node_any ⟨#[73]⟩ (by decide) _ _ _ ((hs.drop (x * 8)).take (min 8 (hs.length - x * 8))) Wd (hash_piece hsl'.out hs32'.out (fun h => (hb28.out h).on (hHeld b (.inr ⟨h, rfl⟩))) x) (by omega)).mono ?_
        rintro e W9 ⟨rfl, hb9⟩
        have hHeld9 : ∀ k, (k = g + 2 ∨ (0 < n1 ∧ k = b)) → W9.heap[k]? = W8.heap[k]? := fun k hk => (hb9.block k (by have := (hfix.out k hk).1; have := hqd.out; omega)).trans (hHeld k hk)
        have hI9 := hid (hIe.out.below hmem.out.1 hmem.out.2.1 hmem.out.2.2.2 hmem.out.2.2.1 hb9)
        have hb9' := hid hb9
        refine hK'.out _ _ hHeld9 (fun hHeld => ?_)
        clear hK' K hHeld9 hb9
        refine wpAnyH_ready (rs := [4]) (by kernel_rfl) (by simp) (AllReadyH.cons rfl (fun K hK => ?_) AllReadyH.nil)
        have hK' := hid hK
        clear hK
        rw [if_pos (by kernel_rfl)]
        simp only [ly1, ly2, ly3]
        go_simp
        refine (hput.out W9 hI9.out.obs (by have := hqd.out; have := hb9'.out.size; have := hgq.out; omega)).mono ?_
        rintro e W4 ⟨rfl, A6, m6, hO, hF, hT⟩
        have hHeld4 : ∀ k, (k = g + 2 ∨ (0 < n1 ∧ k = b)) → W4.heap[k]? = W8.heap[k]? := fun k hk => (hT.block k (by have := (hfix.out k hk).1; have := hqd.out; have := hb9'.out.size; omega) (fun h => h.elim (hfix.out k hk).2.1 (fun e => (hlow2.out k e).elim (hfix.out k hk).2.2.2 (fun h2 => by have := (hfix.out k hk).1; have := hs8'.out; omega)))).trans (hHeld k hk)
        have hacc4 := hid (hT.holds hI9.out.acc (fun h => h.elim (by omega) (fun e => (hlow2.out _ e).elim (fun e2 => by have := (hlow'.out _ e2).1; have := hs3'.out; omega) (fun h2 => by have := hs8'.out; have := hgq.out; omega))))
        have hrow4 := hid (BuAt.rowput hI9.out hT)
        have hO4 := hid hO
        have hF4 := hid hF
        have hT4 := hid hT
        refine hK'.out _ _ hHeld4 (fun hHeld => ?_)
        clear hK' K hHeld4 hO hF hT
        refine wpAnyH_ready (rs := [5]) (by kernel_rfl) (by simp) (AllReadyH.cons rfl (fun K hK => ?_) AllReadyH.nil)
        have hK' := hid hK
        clear hK
        rw [if_pos (by kernel_rfl)]
        simp only [ly1, ly2, ly3]
        refine wp_build_oneF 62 33 (.tmp 36) rfl i0 _ Try.underlying62 hi0'.out hz0'.out (byteCells hh).toArray rfl (by rw [hz1'.out, List.size_toArray, hC.out.len]) (by rw [List.size_toArray, hC.out.len]; decide) (by rw [List.size_toArray, hC.out.len]; decide) ?_
        obtain ⟨W5, hW5⟩ : ∃ V, W4.alloc (.cells (byteCells hh).toArray 33) = V := ⟨_, rfl⟩
        have hb5 : Below W4.heap.size W4 W5 := by rw [← hW5]; exact (Below.refl _ _).alloc (Nat.le_refl _) _
        have hnew := hid (show Holds W5 W4.heap.size 33 (byteCells hh) from by rw [← hW5]; exact Holds.new W4 33 (byteCells hh).toArray)
        have hacc5 := hid (hacc4.out.below hb5 hacc4.out.lt)
        have hrow5 := hid (rown_onF hrow4.out hb5)
        have hz4 := hid (show q + 2 ≤ W4.heap.size from by have := hqd.out; have := hb9'.out.size; have := hT4.out.size; omega)
        have hHeld5 : ∀ k, (k = g + 2 ∨ (0 < n1 ∧ k = b)) → W5.heap[k]? = W8.heap[k]? := fun k hk => (hb5.block k (by have := (hfix.out k hk).1; have := hz4.out; omega)).trans (hHeld k hk)
        have hb5' := hid hb5
        rw [hW5]
        refine hK'.out _ _ hHeld5 (fun hHeld => ?_)
        clear hK' K hHeld5 hb5 hW5
        refine wpAnyH_ready (rs := [6]) (by kernel_rfl) (by simp) (AllReadyH.cons rfl (fun K hK => ?_) AllReadyH.nil)
        have hK' := hid hK
        clear hK
        rw [if_pos (by kernel_rfl)]
        simp only [ly1, ly2, ly3]
        refine wp_appendH (.tmp 32) (.tmp 37) rfl (W8.heap.size + 2) A8' pre.length m8' W4.heap.size _ hh rfl rfl h32.out (by have := hl'.out; have := hn8.out; omega) hrow5.out hnew.out (by have := hsz'.out; have := hs_d.out; have := hb9'.out.size; have := hT4.out.size; have := hb5'.out.size; omega) ?_
        intro A9 m9 W6 hrow6 hg6 hF6
        have hlt6 : ∀ k, k < q → W6.heap[k]? = W5.heap[k]? := fun k hk => hg6.block k (by have := hz4.out; have := hb5'.out.size; omega) (fun e => by have := (hrow5.out.lt k e.symm).1; have := hs8'.out; omega)
        have hacc6 := hid (show Holds W6 (g + 4) 62 [.slice A8' pre.length m8'] from (hlt6 (g + 4) (by have := hgq.out; omega)).trans hacc5.out)
        have hHeld6 : ∀ k, (k = g + 2 ∨ (0 < n1 ∧ k = b)) → W6.heap[k]? = W8.heap[k]? := fun k hk => (hlt6 k (hfix.out k hk).1).trans (hHeld k hk)
        have hrow6' := hid hrow6
        have hg6' := hid hg6
        have hF6' := hid hF6
        refine hK'.out _ _ hHeld6 (fun hHeld => ?_)
        clear hK' K hHeld6 hlt6 hrow6 hg6 hF6
        refine wpAnyH_ready (rs := [7]) (by kernel_rfl) (by simp) (AllReadyH.cons rfl (fun K hK => ?_) AllReadyH.nil)
        have hK' := hid hK
        clear hK
        rw [if_pos (by kernel_rfl)]
        simp only [ly1, ly2, ly3]
        have c3 := hacc6.out.cO 0 _ rfl
        have f3 := hacc6.out.frozen 0
        go_simp
        obtain ⟨W7, hW7⟩ : ∃ V, W6.setCell ⟨g + 4, 0, none⟩ (.slice A9 (pre.length + 1) m9) = V := ⟨_, rfl⟩
        have hHeld7 : ∀ k, (k = g + 2 ∨ (0 < n1 ∧ k = b)) → W7.heap[k]? = W8.heap[k]? := fun k hk => by
          rw [← hW7]
          exact (heap_setCell_other _ _ _ _ (hfix.out k hk).2.2.1).trans (hHeld k hk)
        rw [hW7]
        refine hK'.out _ _ hHeld7 (fun hHeld => ?_)
        clear hK' K hHeld7 c3 f3
        have hend := hid (BuAt.step hI9.out (d := fanT hs x) (by simp) (by omega) (by have := hs8'.out; have := hgq.out; omega) (by have := hs8'.out; have := hgq.out; omega) (by have := hsz'.out; have := hs_d.out; have := hb9'.out.size; omega) hO4.out hF4.out hT4.out (by rw [hhe'.out]; exact hrow6'.out) ⟨hg6'.out.os.trans hb5'.out.os, hg6'.out.tape.trans hb5'.out.tape, hg6'.out.output.trans hb5'.out.output, Nat.le_trans hb5'.out.size hg6'.out.size, fun k hk hne => (hg6'.out.block k (Nat.lt_of_lt_of_le hk hb5'.out.size) hne).trans (hb5'.out.block k hk)⟩ (hF6'.out.low hb5'.out) hW7)
        refine wpAnyH_done (by kernel_rfl) ?_ _
        have hbW := hid (show Below W.heap.size W W9 from (hbd.out).trans (hb9'.out.mono (Nat.le_of_eq hs_d.out.symm)))
        obtain ⟨o', e1, e2, e3, e4⟩ := hend.out
        refine ⟨rfl, KeepsFrom.o ((KeepsFrom.belowF hbW.out).trans ⟨e4.1, e4.2⟩) _, (KeepX.below hbW.out).trans ⟨e3.1, e3.2⟩, o', fun k hk => (e1 k hk).imp id (fun h => Nat.le_trans hbW.out.size h), A6, m6, A9, m9, ?_⟩
        rw [List.length_append]
        exact e2
      · have hK' := hid hK
        clear hK
        rw [if_pos (by kernel_rfl)]
        simp only [ly1, ly2, ly3]
        go_simp
        refine (node_any ⟨#[73]⟩ (by decide) _ _ _ ((hs.drop (x * 8)).take (min 8 (hs.length - x * 8))) Wd (hash_piece hsl'.out hs32'.out (fun h => (hb28.out h).on (hHeld b (.inr ⟨h, rfl⟩))) x) (by omega)).mono ?_
        rintro e W9 ⟨rfl, hb9⟩
        have hHeld9 : ∀ k, (k = g + 2 ∨ (0 < n1 ∧ k = b)) → W9.heap[k]? = W8.heap[k]? := fun k hk => (hb9.block k (by have := (hfix.out k hk).1; have := hqd.out; omega)).trans (hHeld k hk)
        have hI9 := hid (hIe.out.below hmem.out.1 hmem.out.2.1 hmem.out.2.2.2 hmem.out.2.2.1 hb9)
        have hb9' := hid hb9
        refine hK'.out _ _ hHeld9 (fun hHeld => ?_)
        clear hK' K hHeld9 hb9
        refine wpAnyH_ready (rs := [0, 4]) (by kernel_rfl) (by simp) (AllReadyH.cons rfl (fun K hK => ?_) (AllReadyH.cons rfl (fun K hK => ?_) AllReadyH.nil))
        · have hK' := hid hK
          clear hK
          rw [if_pos (by kernel_rfl)]
          simp only [ly1, ly3]
          have c3 := (hI9.out.acc).cO 0 _ rfl
          go_simp
          refine hK'.out _ _ hHeld (fun hHeld => ?_)
          clear hK' K c3
          refine wpAnyH_ready (rs := [4]) (by kernel_rfl) (by simp) (AllReadyH.cons rfl (fun K hK => ?_) AllReadyH.nil)
          have hK' := hid hK
          clear hK
          rw [if_pos (by kernel_rfl)]
          simp only [ly1, ly2, ly3]
          go_simp
          refine (hput.out W9 hI9.out.obs (by have := hqd.out; have := hb9'.out.size; have := hgq.out; omega)).mono ?_
          rintro e W4 ⟨rfl, A6, m6, hO, hF, hT⟩
          have hHeld4 : ∀ k, (k = g + 2 ∨ (0 < n1 ∧ k = b)) → W4.heap[k]? = W8.heap[k]? := fun k hk => (hT.block k (by have := (hfix.out k hk).1; have := hqd.out; have := hb9'.out.size; omega) (fun h => h.elim (hfix.out k hk).2.1 (fun e => (hlow2.out k e).elim (hfix.out k hk).2.2.2 (fun h2 => by have := (hfix.out k hk).1; have := hs8'.out; omega)))).trans (hHeld k hk)
          have hacc4 := hid (hT.holds hI9.out.acc (fun h => h.elim (by omega) (fun e => (hlow2.out _ e).elim (fun e2 => by have := (hlow'.out _ e2).1; have := hs3'.out; omega) (fun h2 => by have := hs8'.out; have := hgq.out; omega))))
          have hrow4 := hid (BuAt.rowput hI9.out hT)
          have hO4 := hid hO
          have hF4 := hid hF
          have hT4 := hid hT
          refine hK'.out _ _ hHeld4 (fun hHeld => ?_)
          clear hK' K hHeld4 hO hF hT
          refine wpAnyH_ready (rs := [5]) (by kernel_rfl) (by simp) (AllReadyH.cons rfl (fun K hK => ?_) AllReadyH.nil)
          have hK' := hid hK
          clear hK
          rw [if_pos (by kernel_rfl)]
          simp only [ly1, ly2, ly3]
          refine wp_build_oneF 62 33 (.tmp 36) rfl i0 _ Try.underlying62 hi0'.out hz0'.out (byteCells hh).toArray rfl (by rw [hz1'.out, List.size_toArray, hC.out.len]) (by rw [List.size_toArray, hC.out.len]; decide) (by rw [List.size_toArray, hC.out.len]; decide) ?_
          obtain ⟨W5, hW5⟩ : ∃ V, W4.alloc (.cells (byteCells hh).toArray 33) = V := ⟨_, rfl⟩
          have hb5 : Below W4.heap.size W4 W5 := by rw [← hW5]; exact (Below.refl _ _).alloc (Nat.le_refl _) _
          have hnew := hid (show Holds W5 W4.heap.size 33 (byteCells hh) from by rw [← hW5]; exact Holds.new W4 33 (byteCells hh).toArray)
          have hacc5 := hid (hacc4.out.below hb5 hacc4.out.lt)
          have hrow5 := hid (rown_onF hrow4.out hb5)
          have hz4 := hid (show q + 2 ≤ W4.heap.size from by have := hqd.out; have := hb9'.out.size; have := hT4.out.size; omega)
          have hHeld5 : ∀ k, (k = g + 2 ∨ (0 < n1 ∧ k = b)) → W5.heap[k]? = W8.heap[k]? := fun k hk => (hb5.block k (by have := (hfix.out k hk).1; have := hz4.out; omega)).trans (hHeld k hk)
          have hb5' := hid hb5
          rw [hW5]
          refine hK'.out _ _ hHeld5 (fun hHeld => ?_)
          clear hK' K hHeld5 hb5 hW5
          refine wpAnyH_ready (rs := [6]) (by kernel_rfl) (by simp) (AllReadyH.cons rfl (fun K hK => ?_) AllReadyH.nil)
          have hK' := hid hK
          clear hK
          rw [if_pos (by kernel_rfl)]
          simp only [ly1, ly2, ly3]
          refine wp_appendH (.tmp 32) (.tmp 37) rfl (W8.heap.size + 2) A8' pre.length m8' W4.heap.size _ hh rfl rfl h32.out (by have := hl'.out; have := hn8.out; omega) hrow5.out hnew.out (by have := hsz'.out; have := hs_d.out; have := hb9'.out.size; have := hT4.out.size; have := hb5'.out.size; omega) ?_
          intro A9 m9 W6 hrow6 hg6 hF6
          have hlt6 : ∀ k, k < q → W6.heap[k]? = W5.heap[k]? := fun k hk => hg6.block k (by have := hz4.out; have := hb5'.out.size; omega) (fun e => by have := (hrow5.out.lt k e.symm).1; have := hs8'.out; omega)
          have hacc6 := hid (show Holds W6 (g + 4) 62 [.slice A8' pre.length m8'] from (hlt6 (g + 4) (by have := hgq.out; omega)).trans hacc5.out)
          have hHeld6 : ∀ k, (k = g + 2 ∨ (0 < n1 ∧ k = b)) → W6.heap[k]? = W8.heap[k]? := fun k hk => (hlt6 k (hfix.out k hk).1).trans (hHeld k hk)
          have hrow6' := hid hrow6
          have hg6' := hid hg6
          have hF6' := hid hF6
          refine hK'.out _ _ hHeld6 (fun hHeld => ?_)
          clear hK' K hHeld6 hlt6 hrow6 hg6 hF6
          refine wpAnyH_ready (rs := [7]) (by kernel_rfl) (by simp) (AllReadyH.cons rfl (fun K hK => ?_) AllReadyH.nil)
          have hK' := hid hK
          clear hK
          rw [if_pos (by kernel_rfl)]
          simp only [ly1, ly2, ly3]
          have c3 := hacc6.out.cO 0 _ rfl
          have f3 := hacc6.out.frozen 0
          go_simp
          obtain ⟨W7, hW7⟩ : ∃ V, W6.setCell ⟨g + 4, 0, none⟩ (.slice A9 (pre.length + 1) m9) = V := ⟨_, rfl⟩
          have hHeld7 : ∀ k, (k = g + 2 ∨ (0 < n1 ∧ k = b)) → W7.heap[k]? = W8.heap[k]? := fun k hk => by
            rw [← hW7]
            exact (heap_setCell_other _ _ _ _ (hfix.out k hk).2.2.1).trans (hHeld k hk)
          rw [hW7]
          refine hK'.out _ _ hHeld7 (fun hHeld => ?_)
          clear hK' K hHeld7 c3 f3
          have hend := hid (BuAt.step hI9.out (d := fanT hs x) (by simp) (by omega) (by have := hs8'.out; have := hgq.out; omega) (by have := hs8'.out; have := hgq.out; omega) (by have := hsz'.out; have := hs_d.out; have := hb9'.out.size; omega) hO4.out hF4.out hT4.out (by rw [hhe'.out]; exact hrow6'.out) ⟨hg6'.out.os.trans hb5'.out.os, hg6'.out.tape.trans hb5'.out.tape, hg6'.out.output.trans hb5'.out.output, Nat.le_trans hb5'.out.size hg6'.out.size, fun k hk hne => (hg6'.out.block k (Nat.lt_of_lt_of_le hk hb5'.out.size) hne).trans (hb5'.out.block k hk)⟩ (hF6'.out.low hb5'.out) hW7)
          refine wpAnyH_done (by kernel_rfl) ?_ _
          have hbW := hid (show Below W.heap.size W W9 from (hbd.out).trans (hb9'.out.mono (Nat.le_of_eq hs_d.out.symm)))
          obtain ⟨o', e1, e2, e3, e4⟩ := hend.out
          refine ⟨rfl, KeepsFrom.o ((KeepsFrom.belowF hbW.out).trans ⟨e4.1, e4.2⟩) _, (KeepX.below hbW.out).trans ⟨e3.1, e3.2⟩, o', fun k hk => (e1 k hk).imp id (fun h => Nat.le_trans hbW.out.size h), A6, m6, A9, m9, ?_⟩
          rw [List.length_append]
          exact e2
        · have hK' := hid hK
          clear hK
          rw [if_pos (by kernel_rfl)]
          simp only [ly1, ly2, ly3]
          go_simp
          refine (hput.out W9 hI9.out.obs (by have := hqd.out; have := hb9'.out.size; have := hgq.out; omega)).mono ?_
          rintro e W4 ⟨rfl, A6, m6, hO, hF, hT⟩
          have hHeld4 : ∀ k, (k = g + 2 ∨ (0 < n1 ∧ k = b)) → W4.heap[k]? = W8.heap[k]? := fun k hk => (hT.block k (by have := (hfix.out k hk).1; have := hqd.out; have := hb9'.out.size; omega) (fun h => h.elim (hfix.out k hk).2.1 (fun e => (hlow2.out k e).elim (hfix.out k hk).2.2.2 (fun h2 => by have := (hfix.out k hk).1; have := hs8'.out; omega)))).trans (hHeld k hk)
          have hacc4 := hid (hT.holds hI9.out.acc (fun h => h.elim (by omega) (fun e => (hlow2.out _ e).elim (fun e2 => by have := (hlow'.out _ e2).1; have := hs3'.out; omega) (fun h2 => by have := hs8'.out; have := hgq.out; omega))))
          have hrow4 := hid (BuAt.rowput hI9.out hT)
          have hO4 := hid hO
          have hF4 := hid hF
          have hT4 := hid hT
          refine hK'.out _ _ hHeld4 (fun hHeld => ?_)
          clear hK' K hHeld4 hO hF hT
          refine wpAnyH_ready (rs := [0, 5]) (by kernel_rfl) (by simp) (AllReadyH.cons rfl (fun K hK => ?_) (AllReadyH.cons rfl (fun K hK => ?_) AllReadyH.nil))
          · have hK' := hid hK
            clear hK
            rw [if_pos (by kernel_rfl)]
            simp only [ly1, ly3]
            have c3 := (hacc4.out).cO 0 _ rfl
            go_simp
            refine hK'.out _ _ hHeld (fun hHeld => ?_)
            clear hK' K c3
            refine wpAnyH_ready (rs := [5]) (by kernel_rfl) (by simp) (AllReadyH.cons rfl (fun K hK => ?_) AllReadyH.nil)
            have hK' := hid hK
            clear hK
            rw [if_pos (by kernel_rfl)]
            simp only [ly1, ly2, ly3]
            refine wp_build_oneF 62 33 (.tmp 36) rfl i0 _ Try.underlying62 hi0'.out hz0'.out (byteCells hh).toArray rfl (by rw [hz1'.out, List.size_toArray, hC.out.len]) (by rw [List.size_toArray, hC.out.len]; decide) (by rw [List.size_toArray, hC.out.len]; decide) ?_
            obtain ⟨W5, hW5⟩ : ∃ V, W4.alloc (.cells (byteCells hh).toArray 33) = V := ⟨_, rfl⟩
            have hb5 : Below W4.heap.size W4 W5 := by rw [← hW5]; exact (Below.refl _ _).alloc (Nat.le_refl _) _
            have hnew := hid (show Holds W5 W4.heap.size 33 (byteCells hh) from by rw [← hW5]; exact Holds.new W4 33 (byteCells hh).toArray)
            have hacc5 := hid (hacc4.out.below hb5 hacc4.out.lt)
            have hrow5 := hid (rown_onF hrow4.out hb5)
            have hz4 := hid (show q + 2 ≤ W4.heap.size from by have := hqd.out; have := hb9'.out.size; have := hT4.out.size; omega)
            have hHeld5 : ∀ k, (k = g + 2 ∨ (0 < n1 ∧ k = b)) → W5.heap[k]? = W8.heap[k]? := fun k hk => (hb5.block k (by have := (hfix.out k hk).1; have := hz4.out; omega)).trans (hHeld k hk)
            have hb5' := hid hb5
            rw [hW5]
            refine hK'.out _ _ hHeld5 (fun hHeld => ?_)
            clear hK' K hHeld5 hb5 hW5
            refine wpAnyH_ready (rs := [6]) (by kernel_rfl) (by simp) (AllReadyH.cons rfl (fun K hK => ?_) AllReadyH.nil)
            have hK' := hid hK
            clear hK
            rw [if_pos (by kernel_rfl)]
            simp only [ly1, ly2, ly3]
            refine wp_appendH (.tmp 32) (.tmp 37) rfl (W8.heap.size + 2) A8' pre.length m8' W4.heap.size _ hh rfl rfl h32.out (by have := hl'.out; have := hn8.out; omega) hrow5.out hnew.out (by have := hsz'.out; have := hs_d.out; have := hb9'.out.size; have := hT4.out.size; have := hb5'.out.size; omega) ?_
            intro A9 m9 W6 hrow6 hg6 hF6
            have hlt6 : ∀ k, k < q → W6.heap[k]? = W5.heap[k]? := fun k hk => hg6.block k (by have := hz4.out; have := hb5'.out.size; omega) (fun e => by have := (hrow5.out.lt k e.symm).1; have := hs8'.out; omega)
            have hacc6 := hid (show Holds W6 (g + 4) 62 [.slice A8' pre.length m8'] from (hlt6 (g + 4) (by have := hgq.out; omega)).trans hacc5.out)
            have hHeld6 : ∀ k, (k = g + 2 ∨ (0 < n1 ∧ k = b)) → W6.heap[k]? = W8.heap[k]? := fun k hk => (hlt6 k (hfix.out k hk).1).trans (hHeld k hk)
            have hrow6' := hid hrow6
            have hg6' := hid hg6
            have hF6' := hid hF6
            refine hK'.out _ _ hHeld6 (fun hHeld => ?_)
            clear hK' K hHeld6 hlt6 hrow6 hg6 hF6
            refine wpAnyH_ready (rs := [7]) (by kernel_rfl) (by simp) (AllReadyH.cons rfl (fun K hK => ?_) AllReadyH.nil)
            have hK' := hid hK
            clear hK
            rw [if_pos (by kernel_rfl)]
            simp only [ly1, ly2, ly3]
            have c3 := hacc6.out.cO 0 _ rfl
            have f3 := hacc6.out.frozen 0
            go_simp
            obtain ⟨W7, hW7⟩ : ∃ V, W6.setCell ⟨g + 4, 0, none⟩ (.slice A9 (pre.length + 1) m9) = V := ⟨_, rfl⟩
            have hHeld7 : ∀ k, (k = g + 2 ∨ (0 < n1 ∧ k = b)) → W7.heap[k]? = W8.heap[k]? := fun k hk => by
              rw [← hW7]
              exact (heap_setCell_other _ _ _ _ (hfix.out k hk).2.2.1).trans (hHeld k hk)
            rw [hW7]
            refine hK'.out _ _ hHeld7 (fun hHeld => ?_)
            clear hK' K hHeld7 c3 f3
            have hend := hid (BuAt.step hI9.out (d := fanT hs x) (by simp) (by omega) (by have := hs8'.out; have := hgq.out; omega) (by have := hs8'.out; have := hgq.out; omega) (by have := hsz'.out; have := hs_d.out; have := hb9'.out.size; omega) hO4.out hF4.out hT4.out (by rw [hhe'.out]; exact hrow6'.out) ⟨hg6'.out.os.trans hb5'.out.os, hg6'.out.tape.trans hb5'.out.tape, hg6'.out.output.trans hb5'.out.output, Nat.le_trans hb5'.out.size hg6'.out.size, fun k hk hne => (hg6'.out.block k (Nat.lt_of_lt_of_le hk hb5'.out.size) hne).trans (hb5'.out.block k hk)⟩ (hF6'.out.low hb5'.out) hW7)
            refine wpAnyH_done (by kernel_rfl) ?_ _
            have hbW := hid (show Below W.heap.size W W9 from (hbd.out).trans (hb9'.out.mono (Nat.le_of_eq hs_d.out.symm)))
            obtain ⟨o', e1, e2, e3, e4⟩ := hend.out
            refine ⟨rfl, KeepsFrom.o ((KeepsFrom.belowF hbW.out).trans ⟨e4.1, e4.2⟩) _, (KeepX.below hbW.out).trans ⟨e3.1, e3.2⟩, o', fun k hk => (e1 k hk).imp id (fun h => Nat.le_trans hbW.out.size h), A6, m6, A9, m9, ?_⟩
            rw [List.length_append]
            exact e2
          · have hK' := hid hK
            clear hK
            rw [if_pos (by kernel_rfl)]
            simp only [ly1, ly2, ly3]
            refine wp_build_oneF 62 33 (.tmp 36) rfl i0 _ Try.underlying62 hi0'.out hz0'.out (byteCells hh).toArray rfl (by rw [hz1'.out, List.size_toArray, hC.out.len]) (by rw [List.size_toArray, hC.out.len]; decide) (by rw [List.size_toArray, hC.out.len]; decide) ?_
            obtain ⟨W5, hW5⟩ : ∃ V, W4.alloc (.cells (byteCells hh).toArray 33) = V := ⟨_, rfl⟩
            have hb5 : Below W4.heap.size W4 W5 := by rw [← hW5]; exact (Below.refl _ _).alloc (Nat.le_refl _) _
            have hnew := hid (show Holds W5 W4.heap.size 33 (byteCells hh) from by rw [← hW5]; exact Holds.new W4 33 (byteCells hh).toArray)
            have hacc5 := hid (hacc4.out.below hb5 hacc4.out.lt)
            have hrow5 := hid (rown_onF hrow4.out hb5)
            have hz4 := hid (show q + 2 ≤ W4.heap.size from by have := hqd.out; have := hb9'.out.size; have := hT4.out.size; omega)
            have hHeld5 : ∀ k, (k = g + 2 ∨ (0 < n1 ∧ k = b)) → W5.heap[k]? = W8.heap[k]? := fun k hk => (hb5.block k (by have := (hfix.out k hk).1; have := hz4.out; omega)).trans (hHeld k hk)
            have hb5' := hid hb5
            rw [hW5]
            refine hK'.out _ _ hHeld5 (fun hHeld => ?_)
            clear hK' K hHeld5 hb5 hW5
            refine wpAnyH_ready (rs := [0]) (by kernel_rfl) (by simp) (AllReadyH.cons rfl (fun K hK => ?_) AllReadyH.nil)
            have hK' := hid hK
            clear hK
            rw [if_pos (by kernel_rfl)]
            simp only [ly1, ly3]
            have c3 := (hacc5.out).cO 0 _ rfl
            go_simp
            refine hK'.out _ _ hHeld (fun hHeld => ?_)
            clear hK' K c3
            refine wpAnyH_ready (rs := [6]) (by kernel_rfl) (by simp) (AllReadyH.cons rfl (fun K hK => ?_) AllReadyH.nil)
            have hK' := hid hK
            clear hK
            rw [if_pos (by kernel_rfl)]
            simp only [ly1, ly2, ly3]
            refine wp_appendH (.tmp 32) (.tmp 37) rfl (W8.heap.size + 2) A8' pre.length m8' W4.heap.size _ hh rfl rfl h32.out (by have := hl'.out; have := hn8.out; omega) hrow5.out hnew.out (by have := hsz'.out; have := hs_d.out; have := hb9'.out.size; have := hT4.out.size; have := hb5'.out.size; omega) ?_
            intro A9 m9 W6 hrow6 hg6 hF6
            have hlt6 : ∀ k, k < q → W6.heap[k]? = W5.heap[k]? := fun k hk => hg6.block k (by have := hz4.out; have := hb5'.out.size; omega) (fun e => by have := (hrow5.out.lt k e.symm).1; have := hs8'.out; omega)
            have hacc6 := hid (show Holds W6 (g + 4) 62 [.slice A8' pre.length m8'] from (hlt6 (g + 4) (by have := hgq.out; omega)).trans hacc5.out)
            have hHeld6 : ∀ k, (k = g + 2 ∨ (0 < n1 ∧ k = b)) → W6.heap[k]? = W8.heap[k]? := fun k hk => (hlt6 k (hfix.out k hk).1).trans (hHeld k hk)
            have hrow6' := hid hrow6
            have hg6' := hid hg6
            have hF6' := hid hF6
            refine hK'.out _ _ hHeld6 (fun hHeld => ?_)
            clear hK' K hHeld6 hlt6 hrow6 hg6 hF6
            refine wpAnyH_ready (rs := [7]) (by kernel_rfl) (by simp) (AllReadyH.cons rfl (fun K hK => ?_) AllReadyH.nil)
            have hK' := hid hK
            clear hK
            rw [if_pos (by kernel_rfl)]
            simp only [ly1, ly2, ly3]
            have c3 := hacc6.out.cO 0 _ rfl
            have f3 := hacc6.out.frozen 0
            go_simp
            obtain ⟨W7, hW7⟩ : ∃ V, W6.setCell ⟨g + 4, 0, none⟩ (.slice A9 (pre.length + 1) m9) = V := ⟨_, rfl⟩
            have hHeld7 : ∀ k, (k = g + 2 ∨ (0 < n1 ∧ k = b)) → W7.heap[k]? = W8.heap[k]? := fun k hk => by
              rw [← hW7]
              exact (heap_setCell_other _ _ _ _ (hfix.out k hk).2.2.1).trans (hHeld k hk)
            rw [hW7]
            refine hK'.out _ _ hHeld7 (fun hHeld => ?_)
            clear hK' K hHeld7 c3 f3
            have hend := hid (BuAt.step hI9.out (d := fanT hs x) (by simp) (by omega) (by have := hs8'.out; have := hgq.out; omega) (by have := hs8'.out; have := hgq.out; omega) (by have := hsz'.out; have := hs_d.out; have := hb9'.out.size; omega) hO4.out hF4.out hT4.out (by rw [hhe'.out]; exact hrow6'.out) ⟨hg6'.out.os.trans hb5'.out.os, hg6'.out.tape.trans hb5'.out.tape, hg6'.out.output.trans hb5'.out.output, Nat.le_trans hb5'.out.size hg6'.out.size, fun k hk hne => (hg6'.out.block k (Nat.lt_of_lt_of_le hk hb5'.out.size) hne).trans (hb5'.out.block k hk)⟩ (hF6'.out.low hb5'.out) hW7)
            refine wpAnyH_done (by kernel_rfl) ?_ _
            have hbW := hid (show Below W.heap.size W W9 from (hbd.out).trans (hb9'.out.mono (Nat.le_of_eq hs_d.out.symm)))
            obtain ⟨o', e1, e2, e3, e4⟩ := hend.out
            refine ⟨rfl, KeepsFrom.o ((KeepsFrom.belowF hbW.out).trans ⟨e4.1, e4.2⟩) _, (KeepX.below hbW.out).trans ⟨e3.1, e3.2⟩, o', fun k hk => (e1 k hk).imp id (fun h => Nat.le_trans hbW.out.size h), A6, m6, A9, m9, ?_⟩
            rw [List.length_append]
            exact e2
    case done2 =>
      rintro D2 xs o V hD2 rfl ⟨A6, m6, A9, m9, hI⟩ hK
      have hlr2 : (List.range (cutN 8 n1)).length = cutN 8 n1 := List.length_range
      rw [hlr2, show (List.range (cutN 8 n1)).map (fanT hs) = fansT hs from by unfold fansT; rw [hsl'.out]] at hI
      have hn28 : cutN 8 n1 ≤ 8 := by unfold cutN; omega
      have hfl : (fansT hs).length = cutN 8 n1 := by unfold fansT; rw [List.length_map, List.length_range, hsl'.out]
      obtain ⟨n2, hn2⟩ : ∃ n, cutN 8 n1 = n := ⟨_, rfl⟩
      rw [hn2] at hI hn28 hfl
      obtain ⟨fs, hfs⟩ : ∃ l, (fansT hs).map obHash = l := ⟨_, rfl⟩
      have hfs32 : ∀ x ∈ fs, x.length = 32 := by
        rw [← hfs]
        intro x hx
        obtain ⟨y, -, rfl⟩ := List.mem_map.1 hx
        exact obHash_len y
      have hfsl : fs.length = n2 := by rw [← hfs, List.length_map, hfl]
      have hrow2 := hI.row
      rw [List.take_of_length_le (by omega), hfs] at hrow2
      have hOb2 := hI.obs
      rw [List.take_of_length_le (by omega)] at hOb2
      have hHH := hid (own_hashs hrow2 hfs32)
      have hg9 := hgq.out
      have hs8 := hs8'.out
      have hW3 := hs3'.out
      have hnD : ∀ (U : World) (k : Nat), U.heap[k]? = some (Obj.deferred (some [])) → ∀ (q : Nat), q = k → (∃ (cs : Array Value) (t : TypeId) (f : Nat × Nat), U.heap[q]? = some (Obj.cells cs t f)) → False := fun U k h q e ⟨cs, t, f, h2⟩ => by
        rw [e, h] at h2
        cases h2
      have hDr : (Value.slice A5 n1 m5).ownBlock ≠ some D := fun e => hnD W8 D hD8.out D rfl (own_cells hO8.out.row e)
      have hlow5 : ∀ k, (Value.slice A5 n1 m5).ownBlock = some k → g + 10 ≤ k := fun k e => by have := (hlow'.out k e).1; omega
      have hkeep : ∀ k, k < W8.heap.size → k ≠ g + 1 → k ≠ g + 4 → k ≠ q → (k < g + 10 ∨ k = D) → V.heap[k]? = W8.heap[k]? := fun k h1 h2 h3 h4 h5 => hI.turn.block k h1 (fun hs => by
        rcases hs with h | h | h | h
        · exact h2 h
        · exact h3 h
        · exact h4 h
        · rcases h5 with h5 | h5
          · have := hlow5 k h; omega
          · exact hDr (by rw [← h5]; exact h))
      have hB8 : Below g w W8 := hb3'.out.trans (hT8.out.below (by rintro k (h | h | h | h) <;> first | omega | cases h) (by omega))
      have hEN := hid (show EnAt w g D D2 A9 n2 m9 V A6 (n1 + n2) m6 (blksT data ++ fansT hs) z32.toList from ⟨hOb2, fun k hk => by
          rcases hI.low k hk with h | h
          · have := hlow5 k h; omega
          · omega, (hkeep (g + 2) (by omega) (by omega) (by omega) (by omega) (.inl (by omega))).trans h68.out, hI.acc, (hkeep g (by omega) (by omega) (by omega) (by omega) (.inl (by omega))).trans hR8.out, (hkeep D (by omega) (by omega) (by omega) (by omega) (.inr rfl)).trans hD8.out, hK, hB8.trans (hI.turn.below (by rintro k (h | h | h | h) <;> first | omega | (have := hlow5 k h; omega)) (by omega))⟩)
      have hrt : rootT data = nodeB ⟨#[82]⟩ fs := by unfold rootT fsT; rw [show hsT data = hs from hhs, hfs]
      have htr : treeT data = blksT data ++ fansT hs ++ [nodeB ⟨#[82]⟩ fs] := by unfold treeT; rw [hrt, show hsT data = hs from hhs]
      have hrz : (nodeB ⟨#[82]⟩ fs).size ≤ 300 := by
        rw [nodeB_size hfs32]
        show 1 + 1 + _ ≤ 300
        omega
      obtain ⟨rt, hrt2⟩ : ∃ x, nodeB ⟨#[82]⟩ fs = x := ⟨_, rfl⟩
      rw [hrt2] at hrt htr hrz
      obtain ⟨rh, hrh⟩ : ∃ l, obHash rt = l := ⟨_, rfl⟩
      have h32 := hid (show rh.length = 32 from by rw [← hrh]; exact obHash_len _)
      have hC := hid (hash_cells rh h32.out)
      have hput := hid (show ∀ U, ObsAt U (g + 1) g A6 (n1 + n2) m6 (blksT data ++ fansT hs) → g ≤ U.heap.size → _ from fun U hO hB => put_any (g + 1) g A6 (n1 + n2) m6 (blksT data ++ fansT hs) rt (by omega) (by omega) U hO hB)
      rw [hrh] at hput
      have hDD := hid (show D ≠ D2 ∧ g + 5 ≤ D ∧ g + 5 ≤ D2 from ⟨by omega, by omega, by omega⟩)
      have hsmall : ∀ x ∈ blksT data ++ fansT hs ++ [rt], x.size ≤ 65536 := fun x hx => by
        rcases List.mem_append.1 hx with h | h
        · rcases List.mem_append.1 h with h | h
          · obtain ⟨i, -, rfl⟩ := List.mem_map.1 h
            rw [fblkT_size]
            omega
          · obtain ⟨i, -, rfl⟩ := List.mem_map.1 h
            have := fanT_size hs32'.out i
            omega
        · rw [List.mem_singleton.1 h]
          omega
      have hrt' := hid hrt
      have htr' := hid htr
      have hrt2' := hid hrt2
      have hrh' := hid hrh
      clear hI hK hHH hT3 hR3' h63' h83' hb3' h0 hseq hO1 hT1 hK1 h6W h8W hRW hacc hO8 h68 hR8 hD8 hT8 hb28 h0b hseq2 hmem hlow5 hkeep hDr hB8 hnD hOb2 hrt htr hrt2 hrh hg9 hs8 hW3 hlr2 hs3' hs8' hlow' hfix hDb hsl' hs32' hb1' hb2'
      have hHH := hid (own_hashs hrow2 hfs32)
      clear hrow2 hfs
      go_wp2_with fail
      rename_i K0 hK0
      have h13 := hid (show ∀ (U : World) (ac : Nat) (A7 : Option Addr) (m7 : Nat), EnAt w g D D2 A9 n2 m9 U A7 (n1 + n2 + 1) m7 (blksT data ++ fansT hs ++ [rt]) z32.toList → Holds U ac 33 (byteCells rh) → g + 5 ≤ ac → K0 { tmps := #[.string data, undef, .pointer (some ⟨g, 0, none⟩), .slice none 0 0, .int .i64 0, .pointer (some ⟨g + 1, 0, none⟩), .pointer (some ⟨g + 2, 0, none⟩), .pointer (some ⟨g + 3, 0, none⟩), .pointer (some ⟨g + 4, 0, none⟩), undef, undef, .pointer (some ⟨ac, 0, none⟩), .string data, .int .i64 (data.size : Int), .bool false, undef, .func (.func 39) #[] #[.pointer (some ⟨g + 1, 0, none⟩)], .string data, .slice (some ⟨g + 5, 0, none⟩) data.size cp, .func (.func 65) #[] #[.pointer (some ⟨g + 6, 0, none⟩), .pointer (some ⟨g + 7, 0, none⟩)], undef, undef, undef, undef, undef, undef, undef, undef, undef, .slice A8 n1 m8, .func (.func 66) #[] #[.pointer (some ⟨q, 0, none⟩), .pointer (some ⟨q + 1, 0, none⟩)], undef, undef, undef, undef, undef, undef, undef, undef, .func (.func 39) #[] #[.pointer (some ⟨g + 1, 0, none⟩)], .slice A9 n2 m9, .string rt, .agg (byteCells rh).toArray, undef, undef, undef, undef], defers := [{ target := .collected D2, args := #[] }, { target := .collected D, args := #[] }] } U from by
        intro U ac A7 m7 hEN hZ hag
        have hEN := hid hEN
        have hZ := hid hZ
        clear hput hHH
        refine hK0 _ _ ?_
        go_wp2_with fail
        refine wp_region_noPanic ?_
        have hEN := hid (hEN.out.below ((Below.refl U.heap.size U).drew))
        have hZ := hid (hZ.out.below ((Below.refl U.heap.size U).drew) hZ.out.lt)
        refine wp_region_held_drew (S := fun U => Holds U ac 33 (byteCells rh) ∧ Holds U (g + 1) 50 [.slice A7 (n1 + n2 + 1) m7]) (by kernel_rfl) ⟨hZ.out, hEN.out.obs.cell⟩ (fun hHeld => ?_)
        generalize U.drew = Wd at *
        refine tkx 0 (.agg (byteCells rh).toArray) hHeld ?_ (hy := yieldsIf_load_any (by kernel_rfl) _ _ rfl ⟨ac, 0, none⟩ rfl (byteCells rh) _ (fun V hS => fun j v hj => by rw [show (⟨ac, 0, none⟩ : Addr).add j = ⟨ac, j, none⟩ from by unfold Addr.add; split <;> simp_all, hS.1.cell]; exact hj) Try.underlying33 rfl (by exact hC.out.size')); simp only [ly, Act.put]
        refine tkx 1 (.slice A7 (n1 + n2 + 1) m7) hHeld ?_ (hy := .inl ⟨by kernel_rfl, fun V hS => by have c1 := hS.2.cO 0 _ rfl; go_simp⟩); simp only [ly, Act.put]
        refine wpAnyH_ready (rs := [2]) (by kernel_rfl) (by simp) (AllReadyH.cons rfl (fun K hK => ?_) AllReadyH.nil)
        have hK' := hid hK
        clear hK
        rw [if_pos (by kernel_rfl)]
        simp only [ly1, ly2, ly3]
        go_simp
        refine (sValS_any A7 (n1 + n2 + 1) m7 Wd).mono ?_
        rintro e U1 ⟨rfl, hal⟩
        have hb : Below Wd.heap.size Wd U1 := by rw [hal]; exact (Below.refl _ _).alloc (Nat.le_refl _) _
        have hc1 := hid (show Holds U1 Wd.heap.size 50 [.slice A7 (n1 + n2 + 1) m7] from by rw [hal]; exact Holds.new Wd 50 #[.slice A7 (n1 + n2 + 1) m7])
        have hgc : g + 5 ≤ Wd.heap.size := by have := hEN.out.fc.lt; omega
        have hEN := hid (hEN.out.below hb)
        have hZ := hid (hZ.out.below hb hZ.out.lt)
        refine hK'.out _ _ ⟨hZ.out, hEN.out.obs.cell⟩ (fun hHeld => ?_)
        clear hK' K hb hal
        obtain ⟨c1, hcc⟩ : ∃ q, Wd.heap.size = q := ⟨_, rfl⟩
        rw [hcc] at hc1 hgc ⊢
        clear hcc
        refine wpAnyH_ready (rs := [3]) (by kernel_rfl) (by simp) (AllReadyH.cons rfl (fun K hK => ?_) AllReadyH.nil)
        have hK' := hid hK
        clear hK
        rw [if_pos (by kernel_rfl)]
        simp only [ly1, ly2, ly3]
        go_simp
        obtain ⟨b2, hq1, hq2, -, -, hq5⟩ := own_txts hEN.out.obs.row
        refine (unlikeS_any c1 b2 A7 (n1 + n2 + 1) m7 _ hq5 hq1 (by omega) hsmall U1 hc1.out hq2).mono ?_
        rintro e U2 ⟨Au, mu, cu, rfl, hrowu, hlowu, hb⟩
        have hEN := hid (hEN.out.below hb)
        have hZ := hid (hZ.out.below hb hZ.out.lt)
        have hru := hid hrowu
        have hlu := hid (show ∀ k, (Value.slice Au mu cu).ownBlock = some k → g + 5 ≤ k from fun k hk => by have := hlowu k hk; have := hc1.out.lt; omega)
        refine hK'.out _ _ ⟨hZ.out, hEN.out.obs.cell⟩ (fun hHeld => ?_)
        clear hK' K hb hrowu hlowu hq1 hq2 hq5
        refine wpAnyH_ready (rs := [4]) (by kernel_rfl) (by simp) (AllReadyH.cons rfl (fun K hK => ?_) AllReadyH.nil)
        have hK' := hid hK
        clear hK
        rw [if_pos (by kernel_rfl)]
        simp only [ly1, ly2, ly3]
        refine wp_store_mid _ _ _ rfl g 0 (byteCells rh).toArray rfl rfl (by exact hEN.out.res.there 0 _ (by rw [List.size_toArray, hC.out.len]; decide)) (by exact hC.out.size) (by exact hC.out.one) ?_
        generalize hXx : World.setCells _ _ _ _ = U3
        have hZ := hid (show Holds U3 ac 33 (byteCells rh) from by rw [← hXx]; exact hZ.out.fars g 0 _ (by omega))
        have hru := hid (show U3.ownsRow 0 9 1 (.slice Au mu cu) mu (strs (unlikeT (blksT data ++ fansT hs ++ [rt]))) from rown_block hru.out fun k hk => by rw [← hXx]; exact cells_far _ _ _ _ _ (by have := hlu.out k hk; omega))
        have hEN := hid (hEN.out.res' (us := byteCells rh) (by rw [hC.out.len]; rfl) hXx)
        refine hK'.out _ _ ⟨hZ.out, hEN.out.obs.cell⟩ (fun hHeld => ?_)
        clear hK' K hXx
        refine tkx 5 (.slice Au mu cu) hHeld ?_; simp only [ly, Act.put]
        refine tkx 6 (.int .i64 0) hHeld ?_; simp only [ly, Act.put]
        refine wpAnyH_done (by kernel_rfl) ?_ _
        refine NoPanic.normal ?_
        go_wp2_with fail
        obtain ⟨hd1, hd2, hd3⟩ := hDD.out
        refine ⟨by simp, .inl ⟨_, _, rfl, run_takeDeferred hEN.out.d2, ?_⟩⟩
        have hd2' : (U3.putObj D2 (.deferred none)).heap[D]? = some (.deferred (some [])) := (World.putObj_heap_other hd1).trans hEN.out.d1
        refine ⟨by simp, .inl ⟨_, _, rfl, run_takeDeferred hd2', ?_⟩⟩
        have hz2 : ((U3.putObj D2 (.deferred none)).putObj D (.deferred none)).heap[g]? = some (.cells (byteCells rh).toArray 33 (0, 0)) := (World.putObj_heap_other (by omega)).trans ((World.putObj_heap_other (by omega)).trans hEN.out.res)
        have hru2 := ownsRow_putObj (ownsRow_putObj hru.out (.deferred none) hEN.out.d2 rfl) (.deferred none) hd2' rfl
        refine ⟨_, results_ctt rfl _ _ g 33 (byteCells rh).toArray (0, 0) _ (.slice Au mu cu) (.int .i64 0) rfl rfl hz2 rfl Try.underlying33 rfl (by exact hC.out.size), Au, mu, cu, ?_, ?_, fun k hk => ?_, ?_⟩
        · rw [hrt'.out, hrh'.out]
        · rw [htr'.out]
          exact hru2
        · have := hlu.out k hk
          have := hgw.out
          omega
        · have hbe := hEN.out.bel
          have hgw2 := hgw.out
          refine ⟨hbe.os, hbe.tape, hbe.output, by rw [World.putObj_size, World.putObj_size]; exact hbe.size, fun k hk => ?_⟩
          exact (World.putObj_heap_other (by omega)).trans ((World.putObj_heap_other (by omega)).trans (hbe.block k (by omega))))
      clear hK0
      refine wp_region_noPanic ?_
      have hEN := hid (hEN.out.below ((Below.refl V.heap.size V).drew))
      have hHH := hid (show Hashs V.drew V.drew.heap.size A9 n2 fs from hHH.out)
      refine wp_region_held_drew (S := fun U => Holds U (g + 2) 40 [.func (.func 39) #[] #[.pointer (some ⟨g + 1, 0, none⟩)]] ∧ Holds U (g + 4) 62 [.slice A9 n2 m9]) (by kernel_rfl) ⟨hEN.out.fn, hEN.out.fc⟩ (fun hHeld => ?_)
      generalize V.drew = Wd at *
      refine tkx 0 (.func (.func 39) #[] #[.pointer (some ⟨g + 1, 0, none⟩)]) hHeld ?_ (hy := .inl ⟨by kernel_rfl, fun V hS => by have c1 := hS.1.cO 0 _ rfl; go_simp⟩); simp only [ly, Act.put]
      refine tkx 1 (.slice A9 n2 m9) hHeld ?_ (hy := .inl ⟨by kernel_rfl, fun V hS => by have c1 := hS.2.cO 0 _ rfl; go_simp⟩); simp only [ly, Act.put]
      refine wpAnyH_ready (rs := [2, 4]) (by kernel_rfl) (by simp) (AllReadyH.cons rfl (fun K hK => ?_) (AllReadyH.cons rfl (fun K hK => ?_) AllReadyH.nil))
      · have hK' := hid hK
        clear hK
        rw [if_pos (by kernel_rfl)]
        simp only [ly1, ly2, ly3]
        go_simp
        refine (node_any ⟨#[82]⟩ (by decide) A9 n2 m9 fs Wd hHH.out (by omega)).mono ?_
        rw [hrt2'.out]
        rintro e U1 ⟨rfl, hb⟩
        have hEN := hid (hEN.out.below hb)
        refine hK'.out _ _ ⟨hEN.out.fn, hEN.out.fc⟩ (fun hHeld => ?_)
        clear hK' K hb
        refine wpAnyH_ready (rs := [3, 4]) (by kernel_rfl) (by simp) (AllReadyH.cons rfl (fun K hK => ?_) (AllReadyH.cons rfl (fun K hK => ?_) AllReadyH.nil))
        · have hK' := hid hK
          clear hK
          rw [if_pos (by kernel_rfl)]
          simp only [ly1, ly2, ly3]
          go_simp
          refine (hput.out U1 hEN.out.obs (by have := hEN.out.res.lt; omega)).mono ?_
          rintro e U2 ⟨rfl, A7, m7, hO, hF, hT⟩
          have hEN := hid (hEN.out.put hO hF hT)
          refine hK'.out _ _ ⟨hEN.out.fn, hEN.out.fc⟩ (fun hHeld => ?_)
          clear hK' K hO hF hT
          refine wpAnyH_ready (rs := [4]) (by kernel_rfl) (by simp) (AllReadyH.cons rfl (fun K hK => ?_) AllReadyH.nil)
          have hK' := hid hK
          clear hK
          rw [if_pos (by kernel_rfl)]
          simp only [ly1, ly2, ly3]
          refine wp_run (.pointer (some ⟨U2.heap.size, 0, none⟩)) (U2.alloc (.cells z32 33)) (by kernel_rfl) ?_
          obtain ⟨U3, hal⟩ : ∃ V, U2.alloc (.cells z32 33) = V := ⟨_, rfl⟩
          have hb : Below U2.heap.size U2 U3 := by rw [← hal]; exact (Below.refl _ _).alloc (Nat.le_refl _) _
          have hZ := hid (show Holds U3 U2.heap.size 33 z32.toList from by rw [← hal]; exact Holds.new U2 33 z32)
          have hag : g + 5 ≤ U2.heap.size := by have := hEN.out.fc.lt; omega
          have hEN := hid (hEN.out.below hb)
          rw [hal]
          refine hK'.out _ _ ⟨hEN.out.fn, hEN.out.fc⟩ (fun hHeld => ?_)
          clear hK' K hb hal
          obtain ⟨ac, hac⟩ : ∃ q, U2.heap.size = q := ⟨_, rfl⟩
          rw [hac] at hZ hag ⊢
          clear hac
          refine wpAnyH_ready (rs := [5]) (by kernel_rfl) (by simp) (AllReadyH.cons rfl (fun K hK => ?_) AllReadyH.nil)
          have hK' := hid hK
          clear hK
          rw [if_pos (by kernel_rfl)]
          simp only [ly1, ly2, ly3]
          refine wp_store_mid _ _ _ rfl ac 0 (byteCells rh).toArray rfl rfl (by exact hZ.out.there 0 _ (by rw [List.size_toArray, hC.out.len]; decide)) (by exact hC.out.size) (by exact hC.out.one) ?_
          generalize hXx : World.setCells _ _ _ _ = U4
          have hEN := hid (hEN.out.off hag hZ.out hXx)
          have hZ := hid (Holds.over (cs := byteCells rh) hZ.out (by rw [hC.out.len]; rfl) hXx)
          refine hK'.out _ _ ⟨hEN.out.fn, hEN.out.fc⟩ (fun hHeld => ?_)
          clear hK' K
          refine wpAnyH_done (by kernel_rfl) ?_ _
          refine NoPanic.normal ?_
          clear hXx
          simp only [ly, Act.put]
          exact h13.out _ _ _ _ hEN.out hZ.out hag
        · have hK' := hid hK
          clear hK
          rw [if_pos (by kernel_rfl)]
          simp only [ly1, ly2, ly3]
          refine wp_run (.pointer (some ⟨U1.heap.size, 0, none⟩)) (U1.alloc (.cells z32 33)) (by kernel_rfl) ?_
          obtain ⟨U2, hal⟩ : ∃ V, U1.alloc (.cells z32 33) = V := ⟨_, rfl⟩
          have hb : Below U1.heap.size U1 U2 := by rw [← hal]; exact (Below.refl _ _).alloc (Nat.le_refl _) _
          have hZ := hid (show Holds U2 U1.heap.size 33 z32.toList from by rw [← hal]; exact Holds.new U1 33 z32)
          have hag : g + 5 ≤ U1.heap.size := by have := hEN.out.fc.lt; omega
          have hEN := hid (hEN.out.below hb)
          rw [hal]
          refine hK'.out _ _ ⟨hEN.out.fn, hEN.out.fc⟩ (fun hHeld => ?_)
          clear hK' K hb hal
          obtain ⟨ac, hac⟩ : ∃ q, U1.heap.size = q := ⟨_, rfl⟩
          rw [hac] at hZ hag ⊢
          clear hac
          refine wpAnyH_ready (rs := [3]) (by kernel_rfl) (by simp) (AllReadyH.cons rfl (fun K hK => ?_) AllReadyH.nil)
          have hK' := hid hK
          clear hK
          rw [if_pos (by kernel_rfl)]
          simp only [ly1, ly2, ly3]
          go_simp
          refine (hput.out U2 hEN.out.obs (by have := hEN.out.res.lt; omega)).mono ?_
          rintro e U3 ⟨rfl, A7, m7, hO, hF, hT⟩
          have hZ := hid (hT.holds hZ.out (fun h => h.elim (by omega) (fun e => own_neF hEN.out.obs.row e hZ.out (by decide) rfl)))
          have hEN := hid (hEN.out.put hO hF hT)
          refine hK'.out _ _ ⟨hEN.out.fn, hEN.out.fc⟩ (fun hHeld => ?_)
          clear hK' K hO hF hT
          refine wpAnyH_ready (rs := [5]) (by kernel_rfl) (by simp) (AllReadyH.cons rfl (fun K hK => ?_) AllReadyH.nil)
          have hK' := hid hK
          clear hK
          rw [if_pos (by kernel_rfl)]
          simp only [ly1, ly2, ly3]
          refine wp_store_mid _ _ _ rfl ac 0 (byteCells rh).toArray rfl rfl (by exact hZ.out.there 0 _ (by rw [List.size_toArray, hC.out.len]; decide)) (by exact hC.out.size) (by exact hC.out.one) ?_
          generalize hXx : World.setCells _ _ _ _ = U4
          have hEN := hid (hEN.out.off hag hZ.out hXx)
          have hZ := hid (Holds.over (cs := byteCells rh) hZ.out (by rw [hC.out.len]; rfl) hXx)
          refine hK'.out _ _ ⟨hEN.out.fn, hEN.out.fc⟩ (fun hHeld => ?_)
          clear hK' K
          refine wpAnyH_done (by kernel_rfl) ?_ _
          refine NoPanic.normal ?_
          clear hXx
          simp only [Act.put]
          exact h13.out _ _ _ _ hEN.out hZ.out hag
      · have hK' := hid hK
        clear hK
        rw [if_pos (by kernel_rfl)]
        simp only [ly1, ly2, ly3]
        refine wp_run (.pointer (some ⟨Wd.heap.size, 0, none⟩)) (Wd.alloc (.cells z32 33)) (by kernel_rfl) ?_
        obtain ⟨U1, hal⟩ : ∃ V, Wd.alloc (.cells z32 33) = V := ⟨_, rfl⟩
        have hb : Below Wd.heap.size Wd U1 := by rw [← hal]; exact (Below.refl _ _).alloc (Nat.le_refl _) _
        have hZ := hid (show Holds U1 Wd.heap.size 33 z32.toList from by rw [← hal]; exact Holds.new Wd 33 z32)
        have hag : g + 5 ≤ Wd.heap.size := by have := hEN.out.fc.lt; omega
        have hEN := hid (hEN.out.below hb)
        have hHH := hid ((hHH.out.below hb).more hb.size)
        rw [hal]
        refine hK'.out _ _ ⟨hEN.out.fn, hEN.out.fc⟩ (fun hHeld => ?_)
        clear hK' K hb hal
        obtain ⟨ac, hac⟩ : ∃ q, Wd.heap.size = q := ⟨_, rfl⟩
        rw [hac] at hZ hag ⊢
        clear hac
        refine wpAnyH_ready (rs := [2]) (by kernel_rfl) (by simp) (AllReadyH.cons rfl (fun K hK => ?_) AllReadyH.nil)
        have hK' := hid hK
        clear hK
        rw [if_pos (by kernel_rfl)]
        simp only [ly1, ly2, ly3]
        go_simp
        refine (node_any ⟨#[82]⟩ (by decide) A9 n2 m9 fs U1 hHH.out (by omega)).mono ?_
        rw [hrt2'.out]
        rintro e U2 ⟨rfl, hb⟩
        have hEN := hid (hEN.out.below hb)
        have hZ := hid (hZ.out.below hb hZ.out.lt)
        refine hK'.out _ _ ⟨hEN.out.fn, hEN.out.fc⟩ (fun hHeld => ?_)
        clear hK' K hb
        refine wpAnyH_ready (rs := [3]) (by kernel_rfl) (by simp) (AllReadyH.cons rfl (fun K hK => ?_) AllReadyH.nil)
        have hK' := hid hK
        clear hK
        rw [if_pos (by kernel_rfl)]
        simp only [ly1, ly2, ly3]
        go_simp
        refine (hput.out U2 hEN.out.obs (by have := hEN.out.res.lt; omega)).mono ?_
        rintro e U3 ⟨rfl, A7, m7, hO, hF, hT⟩
        have hZ := hid (hT.holds hZ.out (fun h => h.elim (by omega) (fun e => own_neF hEN.out.obs.row e hZ.out (by decide) rfl)))
        have hEN := hid (hEN.out.put hO hF hT)
        refine hK'.out _ _ ⟨hEN.out.fn, hEN.out.fc⟩ (fun hHeld => ?_)
        clear hK' K hO hF hT
        refine wpAnyH_ready (rs := [5]) (by kernel_rfl) (by simp) (AllReadyH.cons rfl (fun K hK => ?_) AllReadyH.nil)
        have hK' := hid hK
        clear hK
        rw [if_pos (by kernel_rfl)]
        simp only [ly1, ly2, ly3]
        refine wp_store_mid _ _ _ rfl ac 0 (byteCells rh).toArray rfl rfl (by exact hZ.out.there 0 _ (by rw [List.size_toArray, hC.out.len]; decide)) (by exact hC.out.size) (by exact hC.out.one) ?_
        generalize hXx : World.setCells _ _ _ _ = U4
        have hEN := hid (hEN.out.off hag hZ.out hXx)
        have hZ := hid (Holds.over (cs := byteCells rh) hZ.out (by rw [hC.out.len]; rfl) hXx)
        refine hK'.out _ _ ⟨hEN.out.fn, hEN.out.fc⟩ (fun hHeld => ?_)
        clear hK' K
        refine wpAnyH_done (by kernel_rfl) ?_ _
        refine NoPanic.normal ?_
        clear hXx
        simp only [Act.put]
        exact h13.out _ _ _ _ hEN.out hZ.out hag

end Go.Proofs.Ytpjfhbmegabafaa
