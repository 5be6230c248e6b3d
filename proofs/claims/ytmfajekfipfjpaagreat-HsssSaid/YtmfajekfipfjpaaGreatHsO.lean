/- Layer 6: what an own signature is taken for; the statements' own keys.
   Layer 6: the statements' own keys. -/
import Derived.Test.YtmfajekfipfjpaaGreatHsF
import Derived.Test.YtmfajekfipfjpaaGreatHsD
import Derived.Test.YtmfajekfipfjpaaGreatFil6
set_option maxRecDepth 100000
namespace Go.Proofs.YtmfajekfipfjpaaGreat
open Go.RowKit
open Go.Lib (strCells strCells_length strCells_oneCell)
open Sha (bn shaN sha_num bn_cut)
attribute [local irreducible] Sha.compress Sha.blocks Sha.sha Sha.pad

theorem hb_ext {a b : ByteArray} (h : a.data.toList = b.data.toList) : a = b := ByteArray.ext (Array.toList_inj.1 h)
theorem beh_app (x : Nat) (hx : x < 4294967296) (t : ByteArray) : behOk (be 4 x ++ t) x = true ∧ behT (be 4 x ++ t) x = t := by
  have hl : (be 4 x ++ t).data.toList = beL 4 x ++ t.data.toList := data_append _ _
  have hz : (be 4 x ++ t).size = 4 + t.size := by rw [ByteArray.size_append, be_size]
  have ho : behOk (be 4 x ++ t) x = true := decide_eq_true ⟨by omega, by rw [hl, List.take_left' (beL_length 4 x)]; exact numL_be 4 x hx⟩
  refine ⟨ho, ?_⟩
  unfold behT
  rw [if_pos ho]
  refine hb_ext ?_
  rw [cut_mid, hl, List.drop_left' (beL_length 4 x), hz, Nat.add_sub_cancel_left, ← data_length]
  exact List.take_length
/-- What a public key says of a signature's form. -/
theorem sl_pub (p : Ots.Par) (kd h : Nat) (hpar : Ots.par (kd : Int) = some p) (h1 : 1 ≤ h) (h5 : h ≤ 5) (id seed : ByteArray) (hi : id.size = 16) : slOk (pubT p kd h id seed).data.toList = true ∧ slLen (pubT p kd h id seed).data.toList = 44 + 32 * p.p + 32 * h := by
  obtain ⟨-, p2, p3, -, -⟩ := Lms.pub_parts p kd h id.data.toList seed.data.toList (by rw [data_length]; exact hi)
  have hk : kd < 4294967296 := by
    rcases Ots.par_kind hpar with ⟨e, _⟩ | ⟨e, _⟩ <;> omega
  have nk : numL (beL 4 kd) = kd := numL_be 4 kd hk
  have nt : numL (beL 4 (Lms.typ h)) = Lms.typ h := numL_be 4 _ (Lms.typ_lt h h5)
  obtain ⟨g1, g2⟩ := hgt_yes h1 h5 rfl
  unfold slOk slLen
  rw [show (pubT p kd h id seed).data.toList = Lms.pubL p kd h id.data.toList seed.data.toList from rfl, p2, p3, nk, nt, g1, g2, hpar]
  refine ⟨rfl, ?_⟩
  unfold parOr
  rw [hpar]
  rfl
theorem hVer_sign (p : Ots.Par) (kd h q : Nat) (hpar : Ots.par (kd : Int) = some p) (h1 : 1 ≤ h) (h5 : h ≤ 5) (id seed : ByteArray) (hi16 : id.size = 16) (hq : q < 2 ^ (2 * h)) (msg x : ByteArray) :
    hVer (hPubT p kd h id seed) x (hSigT p kd h id seed q msg) = comb 0 (Lms.verify (lowPubT p kd h id seed (q / 2 ^ h)).data.toList x.data.toList (sigT p kd h (lowId id seed (q / 2 ^ h)) (lowSeed id seed (q / 2 ^ h)) (q % 2 ^ h) msg).data.toList) := by
  have hu : q / 2 ^ h < 2 ^ h := by
    have e : 2 ^ (2 * h) = 2 ^ h * 2 ^ h := by rw [← Nat.pow_add]; congr 1; omega
    exact Nat.div_lt_of_lt_mul (by omega)
  obtain ⟨u, hue⟩ : ∃ u, q / 2 ^ h = u := ⟨_, rfl⟩
  rw [hue] at hu ⊢
  obtain ⟨r, hre⟩ : ∃ r, q % 2 ^ h = r := ⟨_, rfl⟩
  rw [hre]
  have hk : kd < 4294967296 := by
    rcases Ots.par_kind hpar with ⟨e, _⟩ | ⟨e, _⟩ <;> omega
  have hLz : (lowPubT p kd h id seed u).size = 56 := pubT_size p kd h _ _ (lowId_size id seed u)
  have hV := Lms.verify_ok p kd h id.data.toList seed.data.toList u (lowPubT p kd h id seed u).data.toList hpar hk h1 h5 (by rw [data_length]; exact hi16) hu (by rw [data_length, hLz]; decide)
  have hV : Lms.verify (pubT p kd h id seed).data.toList (lowPubT p kd h id seed u).data.toList (sigT p kd h id seed u (lowPubT p kd h id seed u)).data.toList = 0 := hV
  obtain ⟨sa, sb⟩ := sl_pub p kd h hpar h1 h5 id seed hi16
  obtain ⟨la, lb⟩ := sl_pub p kd h hpar h1 h5 (lowId id seed u) (lowSeed id seed u) (lowId_size id seed u)
  have la : slOk (lowPubT p kd h id seed u).data.toList = true := la
  have lb : slLen (lowPubT p kd h id seed u).data.toList = 44 + 32 * p.p + 32 * h := lb
  have hPz : (pubT p kd h id seed).size = 56 := pubT_size p kd h _ _ hi16
  have z1 := sig_size p kd h u id seed (lowPubT p kd h id seed u)
  have z2 := sig_size p kd h r (lowId id seed u) (lowSeed id seed u) msg
  have hS : hSigT p kd h id seed q msg = be 4 1 ++ (sigT p kd h id seed u (lowPubT p kd h id seed u) ++ (lowPubT p kd h id seed u ++ sigT p kd h (lowId id seed u) (lowSeed id seed u) r msg)) := by
    unfold hSigT
    rw [hue, hre]
    refine hb_ext ?_
    simp only [data_append, List.append_assoc]
  rw [hS]
  unfold hPubT
  obtain ⟨P, hP⟩ : ∃ t, pubT p kd h id seed = t := ⟨_, rfl⟩
  obtain ⟨L, hL⟩ : ∃ t, lowPubT p kd h id seed u = t := ⟨_, rfl⟩
  rw [hP] at hV sa sb hPz ⊢
  rw [hL] at hV la lb hLz z1 ⊢
  obtain ⟨A, hA⟩ : ∃ t, sigT p kd h id seed u L = t := ⟨_, rfl⟩
  obtain ⟨B, hB⟩ : ∃ t, sigT p kd h (lowId id seed u) (lowSeed id seed u) r msg = t := ⟨_, rfl⟩
  rw [hA] at hV z1 ⊢
  rw [hB] at z2 ⊢
  obtain ⟨n, hn⟩ : ∃ n, 44 + 32 * p.p + 32 * h = n := ⟨_, rfl⟩
  rw [hn] at sb lb z1 z2
  clear hP hL hA hB hn hS hue hre
  obtain ⟨b1, b2⟩ := beh_app 2 (by decide) P
  obtain ⟨c1, c2⟩ := beh_app 1 (by decide) (A ++ (L ++ B))
  have hzr : (A ++ (L ++ B)).size = n + (56 + n) := by rw [ByteArray.size_append, ByteArray.size_append, z1, hLz, z2]
  have al : A.data.toList.length = n := by rw [data_length]; exact z1
  have ll : L.data.toList.length = 56 := by rw [data_length]; exact hLz
  have bl : B.data.toList.length = n := by rw [data_length]; exact z2
  have e1 : pN (be 4 2 ++ P) = n := by unfold pN; rw [b2]; exact sb
  have e2 : pLow (be 4 2 ++ P) (be 4 1 ++ (A ++ (L ++ B))) = L := by
    unfold pLow
    rw [e1, c2]
    refine hb_ext ?_
    rw [cut_mid, data_append, data_append, List.drop_left' al, Nat.add_sub_cancel_left]
    exact List.take_left' ll
  have e3 : pOne (be 4 2 ++ P) (be 4 1 ++ (A ++ (L ++ B))) = A := by
    unfold pOne
    rw [e1, c2]
    refine hb_ext ?_
    rw [cut_mid, data_append, data_append, List.drop_zero]
    exact List.take_left' al
  have e4 : pTwo (be 4 2 ++ P) (be 4 1 ++ (A ++ (L ++ B))) = B := by
    unfold pTwo
    rw [e1, c2, hzr]
    refine hb_ext ?_
    rw [cut_mid, data_append, data_append, ← List.drop_drop, List.drop_left' al, List.drop_left' ll, show n + (56 + n) - (n + 56) = n by omega]
    rw [← bl]
    exact List.take_length
  have hg : pGood (be 4 2 ++ P) (be 4 1 ++ (A ++ (L ++ B))) := by
    refine ⟨b1, by rw [b2]; exact hPz, c1, by rw [b2]; exact sa, ?_⟩
    rw [b2, c2, hzr, sb]
    omega
  have ho : pOk (be 4 2 ++ P) (be 4 1 ++ (A ++ (L ++ B))) = true := by
    unfold pOk
    rw [e2, e4, la, lb, z2, decide_eq_true rfl]
    rfl
  unfold hVer
  rw [if_pos ⟨hg, ho⟩, e2, e3, e4, b2, hV]

/-- A statement's name, its seed, its cells. -/
def hId (s : ByteArray) : ByteArray := fillT (⟨#[105]⟩ ++ s) 16
def hSeed (s : ByteArray) : ByteArray := fillT s 32
theorem hId_size (s : ByteArray) : (hId s).size = 16 := fillT_size _ _
theorem hSeed_size (s : ByteArray) : (hSeed s).size = 32 := fillT_size _ _
theorem hpar3 : Ots.par 3 = some Ots.o4 := rfl
def hCells (s : ByteArray) (q : Nat) : List Value := keyC 3 1 (hId s) (hSeed s) (q : Int)

/-- The lower key of the statements' first signature. -/
theorem low_num (l : List UInt8) (n v : Nat) (hl : l.length = 65) (hn : bn l = n) (hv : Nat.beq (shaN n 65) v = true) : bn (Sha.sha l) = v := by
  rw [sha_num l (by rw [hl]; decide), hl, hn]
  exact Nat.eq_of_beq_eq_true hv
def lowIdN : Nat := 209053531166420721249584404460056183425
def lowSeedN : Nat := 97335141807740121809971089823166988481221744128642190365835826612178071014439
theorem lowId_num : bn (lowId (hId ⟨#[115]⟩) (hSeed ⟨#[115]⟩) 1).data.toList = lowIdN := by
  have h := low_num (tagL 2 [hId ⟨#[115]⟩, hSeed ⟨#[115]⟩, be 4 1]) 26815615911119053604847544629885445826215226951248346522733012454146217120131855008509153991367299137388587304014778608666191736042703848479021662505795585 71137230398489820552231251841777693977109319524710131829981431725926525160742 (by decide +kernel) (by decide +kernel) (by decide +kernel)
  have hc := bn_cut (lowH 2 (hId ⟨#[115]⟩) (hSeed ⟨#[115]⟩) 1) 0 16 (by rw [lowH_len]; decide)
  rw [lowH_len, List.drop_zero] at hc
  unfold lowId
  rw [txt_list, hc]
  unfold lowH
  rw [h]
  decide +kernel
theorem lowSeed_num : bn (lowSeed (hId ⟨#[115]⟩) (hSeed ⟨#[115]⟩) 1).data.toList = lowSeedN := by
  unfold lowSeed lowH
  rw [txt_list]
  exact low_num (tagL 3 [hId ⟨#[115]⟩, hSeed ⟨#[115]⟩, be 4 1]) 40223423841061650704421569628091291953694592771840739900456573897867981150205401985311028289534202565078619162201264659519945618854650418425455311511879681 _ (by decide +kernel) (by decide +kernel) (by decide +kernel)
theorem low_wrongN : Nat.beq (Lms.joinN lowIdN 1 (Lms.leafN lowIdN 2 (Lms.keyN lowIdN lowSeedN 0)) (Lms.leafN lowIdN 3 (Lms.wrongN lowIdN lowSeedN 1 109 1 120 1))) (Lms.joinN lowIdN 1 (Lms.leafN lowIdN 2 (Lms.keyN lowIdN lowSeedN 0)) (Lms.leafN lowIdN 3 (Lms.keyN lowIdN lowSeedN 1))) = false := by
  decide +kernel
theorem low_wrong (id seed : List UInt8) (hi : id.length = 16) (hs : seed.length = 32) (ni : bn id = lowIdN) (ns : bn seed = lowSeedN) : Lms.verify (Lms.pubL Ots.o4 3 1 id seed) [120] (Lms.signL Ots.o4 3 1 id seed 1 [109]) = 502 := by
  have e := Lms.verify_sign Ots.o4 3 1 id seed 1 [109] [120] hpar3 (by decide) (by decide) (by decide) hi (by decide) (by decide)
  have hc : Lms.climb id (Lms.path id (Lms.keys Ots.o4 id seed 1) 1 0 (2 ^ 1 + 1)) (2 ^ 1 + 1) (Lms.leaf id (2 ^ 1 + 1) (Ots.cand Ots.o4 (Ots.head id 1) [120] (Ots.sign Ots.o4 3 (Ots.head id 1) seed [109]))) =
      Lms.join id 1 (Lms.leaf id 2 (Ots.pub Ots.o4 (Ots.head id 0) seed)) (Lms.leaf id 3 (Ots.cand Ots.o4 (Ots.head id 1) [120] (Ots.sign Ots.o4 3 (Ots.head id 1) seed [109]))) := by
    simp only [Lms.path, Lms.climb, Lms.other, Lms.node, Lms.keys]
    rfl
  have hn : Lms.node id (Lms.keys Ots.o4 id seed 1) 1 1 = Lms.join id 1 (Lms.leaf id 2 (Ots.pub Ots.o4 (Ots.head id 0) seed)) (Lms.leaf id 3 (Ots.pub Ots.o4 (Ots.head id 1) seed)) := by
    simp only [Lms.node, Lms.keys]
  rw [hc, hn] at e
  rw [e]
  refine if_neg fun h => ?_
  have h := congrArg bn h
  rw [Lms.join_num id 1 _ _ hi (by decide) (Lms.leaf_len _ _ _) (Lms.leaf_len _ _ _), Lms.join_num id 1 _ _ hi (by decide) (Lms.leaf_len _ _ _) (Lms.leaf_len _ _ _), Lms.leaf_num id 3 _ hi (by decide) (Lms.cand_len _ _ _ _), Lms.leaf_num id 2 _ hi (by decide) (Lms.pub_len _ _ _), Lms.leaf_num id 3 _ hi (by decide) (Lms.pub_len _ _ _),
    Lms.wrong_num id seed 1 [109] [120] 3 hi hs (by decide) (by decide) (by decide), Lms.key_num id seed 1 hi hs (by decide), Lms.key_num id seed 0 hi hs (by decide), ni, ns] at h
  have h2 := low_wrongN
  have e1 : bn [109] = 109 := rfl
  have e2 : bn [120] = 120 := rfl
  rw [e1, e2] at h
  rw [List.length_singleton, List.length_singleton] at h
  exact Nat.ne_of_beq_eq_false h2 h
end Go.Proofs.YtmfajekfipfjpaaGreat
namespace Go.Proofs.YtmfajekfipfjpaaGreat
open Go.RowKit
open Go.Lib (strCells strCells_length strCells_oneCell)
attribute [local irreducible] Sha.compress Sha.blocks Sha.sha Sha.pad

/-- A statement's number. -/
def kq (x : Int) : Nat := (IntKind.u64.wrap x % 5).toNat
theorem kq_le (x : Int) : kq x ≤ 4 := by unfold kq; omega
theorem kq_eq (x : Int) : (IntKind.u64.wrap x).tmod 5 = (kq x : Int) := by
  have e : IntKind.u64.wrap x = x % 18446744073709551616 := rfl
  unfold kq
  rw [e, Int.tmod_eq_emod_of_nonneg (by omega)]
  omega
set_option maxHeartbeats 1000000 in
theorem Key6_any (s : ByteArray) (x : Int) (hs : s.size ≤ 140737488351232) (w : World) : Calls Tryz.prog 25 #[.string s, .int .i64 x] w fun e w' => e = .returned (.agg (hCells s (kq x)).toArray) ∧ Below w.heap.size w w' := by
  obtain ⟨W0, hW0⟩ : ∃ W0, w.alloc (.cells (keyC 0 0 ⟨#[]⟩ ⟨#[]⟩ 0).toArray 23) = W0 := ⟨_, rfl⟩
  have hZ0 := hid (show Holds W0 w.heap.size 23 zk from by rw [← hW0]; exact Holds.new _ _ zk.toArray)
  have hB0 := hid (show Below w.heap.size w W0 from by rw [← hW0]; exact (Below.refl _ _).alloc (Nat.le_refl _) _)
  have hW0' := hid hW0
  have zi : (⟨#[105]⟩ ++ s : ByteArray).size ≤ 140737488355000 := by rw [ByteArray.size_append]; have : (⟨#[105]⟩ : ByteArray).size = 1 := rfl; omega
  have hfi := hid (fun W => filled6_any (⟨#[105]⟩ ++ s) 16 (by decide) zi W)
  have hfs := hid (fun W => filled6_any s 32 (by decide) (by omega) W)
  have hsz := hid (show (Tryz.prog.info? 23).map (·.size) = some 5 from sizeHss)
  obtain ⟨ki, hki⟩ : ∃ t, fillT (⟨#[105]⟩ ++ s) 16 = t := ⟨_, rfl⟩
  obtain ⟨ks, hks⟩ : ∃ t, fillT s 32 = t := ⟨_, rfl⟩
  unfold hCells hId hSeed
  rw [hki] at hfi ⊢
  rw [hks] at hfs ⊢
  have l1 : 1 + s.size ≤ 9223372036854775807 := by omega
  clear hki hks zi hW0
  have hle := kq_le x
  have e3 := kq_eq x
  obtain ⟨q, hq⟩ : ∃ q, kq x = q := ⟨_, rfl⟩
  rw [hq] at e3 hle ⊢
  clear hq
  obtain ⟨ux, hux⟩ : ∃ u, IntKind.u64.wrap x = u := ⟨_, rfl⟩
  rw [hux] at e3
  have e4 : IntKind.u64.wrap (q : Int) = (q : Int) := by
    have e : IntKind.u64.wrap (q : Int) = (q : Int) % 18446744073709551616 := rfl
    omega
  have e5 := IntWalk.i64_in (q : Int) (by omega)
  clear hle
  go_enter Tryz.func25, Tryz.ntmps25
  go_wp2_with (first
    | ((with_reducible refine at_slot (some 4) ?_); refine wpList_run rfl (.pointer (some ⟨w.heap.size, 0, none⟩)) (w.alloc (.cells (keyC 0 0 ⟨#[]⟩ ⟨#[]⟩ 0).toArray 23)) (by kernel_rfl) ?_; rw [hW0'.out])
    | fail)
  clear hs
  refine (hfi.out _).mono ?_
  rintro e W2 ⟨rfl, hb⟩
  have hZ2 := zon hb hZ0
  have hB2 := zup hb hB0
  clear hb hZ0 hB0
  go_wp2_with fail
  refine (hfs.out _).mono ?_
  rintro e W3 ⟨rfl, hb⟩
  have hZ3 := zon hb hZ2
  have hB3 := zup hb hB2
  clear hb hZ2 hB2
  go_wp2_with (first
    | ((with_reducible refine at_slot (some 14) ?_); refine wpList_run rfl (.agg (keyC 3 1 ki ks (q : Int)).toArray) W3 (by kernel_rfl) ?_)
    | ((with_reducible refine at_slot none ?_); refine wpList_store_mid rfl 23 (.tmp 4) (.tmp 14) rfl w.heap.size 0 (keyC 3 1 ki ks (q : Int)).toArray rfl rfl (by exact hZ3.out.there 0 _ (Nat.le_refl 5)) (by exact hsz.out) (by exact keyC_one _ _ _ _ _) ?_; generalize hXx : World.setCells _ _ _ _ = W4; have hZ4 := hid (Holds.over (cs := keyC 3 1 ki ks (q : Int)) hZ3.out rfl hXx); have hB4 := hid (below_put hB3.out (Nat.le_refl _) hXx); clear hXx)
    | fail)
  exact bodyPost_ret (results_cell_row rfl _ _ w.heap.size 23 _ (0, 0) _ rfl hZ4.out Tryz.underlying23 rfl (by exact hsz.out)) rfl ⟨rfl, hB4.out⟩

def hkPub (s : ByteArray) : ByteArray := hPubT Ots.o4 3 1 (hId s) (hSeed s)
def hkSig (s : ByteArray) (q : Nat) (msg : ByteArray) : ByteArray := hSigT Ots.o4 3 1 (hId s) (hSeed s) q msg
theorem hkOk (s : ByteArray) (q : Nat) (hq : q ≤ 4) : hOk 3 1 (hId s) (hSeed s) (q : Int) = true := by
  have : (q : Int) ≤ 4 := by omega
  unfold hOk
  rw [hpar3, hId_size, hSeed_size]
  simp [this]
theorem hkPublic (s : ByteArray) (q : Nat) (hq : q ≤ 4) (w : World) : Calls Tryz.prog 4 #[.agg (hCells s q).toArray] w fun e w' => e = .returned (.tuple #[.string (hkPub s), .int .i64 0]) ∧ Below w.heap.size w w' :=
  hPublic_good Ots.o4 3 1 q hpar3 (by decide) (by decide) (hId s) (hSeed s) (hId_size s) (hSeed_size s) hq (hkOk s q hq) w
theorem hkSign (s : ByteArray) (q : Nat) (hq : q < 4) (msg : ByteArray) (hm : msg.size ≤ 65536) (w : World) : Calls Tryz.prog 6 #[.agg (hCells s q).toArray, .string msg] w fun e w' => e = .returned (.tuple #[.string (hkSig s q msg), .agg (hCells s (q + 1)).toArray, .int .i64 0]) ∧ Below w.heap.size w w' :=
  hSign_good Ots.o4 3 1 q hpar3 (by decide) (by decide) (hId s) (hSeed s) (hId_size s) (hSeed_size s) hq (hkOk s q (by omega)) msg hm w
theorem hkSpent (s msg : ByteArray) (hm : msg.size ≤ 65536) (w : World) : Calls Tryz.prog 6 #[.agg (hCells s 4).toArray, .string msg] w fun e w' => e = .returned (.tuple #[.string ⟨#[]⟩, .agg zk.toArray, .int .i64 601]) ∧ Below w.heap.size w w' :=
  hSign_spent 3 1 (by decide) (hId s) (hSeed s) 4 (hkOk s 4 (by decide)) msg hm rfl w
theorem hkLeft (s : ByteArray) (q : Nat) (hq : q ≤ 4) (w : World) : Calls Tryz.prog 9 #[.agg (hCells s q).toArray] w fun e w' => e = .returned (.int .i64 ((4 - q : Nat) : Int)) ∧ Below w.heap.size w w' :=
  hLeft_good 3 1 q (by decide) hq (hId s) (hSeed s) (hkOk s q hq) w
theorem hkVer (s : ByteArray) (q : Nat) (hq : q < 4) (msg x : ByteArray) : hVer (hkPub s) x (hkSig s q msg) = comb 0 (Lms.verify (lowPubT Ots.o4 3 1 (hId s) (hSeed s) (q / 2)).data.toList x.data.toList (sigT Ots.o4 3 1 (lowId (hId s) (hSeed s) (q / 2)) (lowSeed (hId s) (hSeed s) (q / 2)) (q % 2) msg).data.toList) :=
  hVer_sign Ots.o4 3 1 q hpar3 (by decide) (by decide) (hId s) (hSeed s) (hId_size s) hq msg x
theorem hkVerify (s : ByteArray) (q : Nat) (hq : q < 4) (msg : ByteArray) (hm : msg.size ≤ 65536) : hVer (hkPub s) msg (hkSig s q msg) = 0 := by
  have e : Lms.verify (lowPubT Ots.o4 3 1 (hId s) (hSeed s) (q / 2)).data.toList msg.data.toList (sigT Ots.o4 3 1 (lowId (hId s) (hSeed s) (q / 2)) (lowSeed (hId s) (hSeed s) (q / 2)) (q % 2) msg).data.toList = 0 :=
    Lms.verify_ok Ots.o4 3 1 _ _ (q % 2) _ hpar3 (by decide) (by decide) (by decide) (by rw [data_length, lowId_size]) (by omega) (by rw [data_length]; exact hm)
  rw [hkVer s q hq, e]
  rfl
theorem hkWrong : hVer (hkPub ⟨#[115]⟩) ⟨#[120]⟩ (hkSig ⟨#[115]⟩ 3 ⟨#[109]⟩) = 602 := by
  have e : Lms.verify (lowPubT Ots.o4 3 1 (hId ⟨#[115]⟩) (hSeed ⟨#[115]⟩) (3 / 2)).data.toList (⟨#[120]⟩ : ByteArray).data.toList (sigT Ots.o4 3 1 (lowId (hId ⟨#[115]⟩) (hSeed ⟨#[115]⟩) (3 / 2)) (lowSeed (hId ⟨#[115]⟩) (hSeed ⟨#[115]⟩) (3 / 2)) (3 % 2) ⟨#[109]⟩).data.toList = 502 :=
    low_wrong _ _ (by rw [data_length, lowId_size]) (by rw [data_length, lowSeed_size]) lowId_num lowSeed_num
  rw [hkVer _ 3 (by decide), e]
  rfl
theorem hkPub_size (s : ByteArray) : (hkPub s).size = 60 := by
  unfold hkPub hPubT
  rw [ByteArray.size_append, be_size, pubT_size _ _ _ _ _ (hId_size s)]
theorem hkSig_size (s : ByteArray) (q : Nat) (msg : ByteArray) : (hkSig s q msg).size = 4500 := by
  unfold hkSig hSigT lowPubT
  rw [ByteArray.size_append, ByteArray.size_append, ByteArray.size_append, be_size, pubT_size _ _ _ _ _ (lowId_size _ _ _), sig_size, sig_size]
  rfl
theorem h_any {w : World} {g : Nat} {t : TypeId} {cs : List Value} (h : Holds w g t cs) : ∀ j v, cs[j]? = some v → w.cell? ((⟨g, 0, none⟩ : Addr).add j) = some v := by
  intro j v hv
  have e0 : (⟨g, 0, none⟩ : Addr).add j = ⟨g, j, none⟩ := by
    unfold Addr.add
    by_cases h0 : j = 0 <;> simp [h0]
  rw [e0, h.cell]
  exact hv
theorem hsk_new {W W7 : World} {cs : List Value} (hc : cs.length = 5) (h : (W.alloc (.cells zk.toArray 23)).setCells W.heap.size 0 cs = W7) : Holds W7 W.heap.size 23 cs ∧ Below W.heap.size W W7 := by
  have hH := Holds.new W 23 zk.toArray
  have hb : Below W.heap.size W (W.alloc (.cells zk.toArray 23)) := (Below.refl _ _).alloc (Nat.le_refl _) _
  exact ⟨Holds.over hH (by rw [hc]; rfl) h, below_put hb (Nat.le_refl _) h⟩
theorem hsk_there (W : World) (cs : List Value) (hc : cs.length = 5) : (W.alloc (.cells zk.toArray 23)).there W.heap.size 0 cs.toArray.size := (Holds.new W 23 zk.toArray).there 0 _ (by rw [List.size_toArray, hc]; exact Nat.le_refl 5)
/-- A list of cells that is a key's. -/
structure KeyH (cs : List Value) : Prop where
  len : cs.length = 5
  one : cs.toArray.all (·.oneCell') = true
  size : (Tryz.prog.info? 23).map (·.size) = some cs.toArray.size
  size' : (Tryz.prog.info? 23).map (·.size) = some cs.length
theorem hkKey (s : ByteArray) (q : Nat) : KeyH (hCells s q) := ⟨rfl, keyC_one _ _ _ _ _, sizeHss, sizeHss⟩
theorem zhKey : KeyH zk := ⟨rfl, zk_one, sizeHss, sizeHss⟩

set_option maxHeartbeats 3000000 in
theorem awake6_any (w : World) : Calls Tryz.prog 11 #[] w fun e w' => e = .returned (.bool true) ∧ Below w.heap.size w w' := by
  obtain ⟨kc, hkc⟩ : ∃ c, hCells ⟨#[115]⟩ 3 = c := ⟨_, rfl⟩
  obtain ⟨kn, hkn⟩ : ∃ c, hCells ⟨#[115]⟩ 4 = c := ⟨_, rfl⟩
  obtain ⟨pb, hpb⟩ : ∃ c, hkPub ⟨#[115]⟩ = c := ⟨_, rfl⟩
  obtain ⟨sg, hsg⟩ : ∃ c, hkSig ⟨#[115]⟩ 3 ⟨#[109]⟩ = c := ⟨_, rfl⟩
  have hKey := hid (fun W => show Calls Tryz.prog 25 #[.string ⟨#[115]⟩, .int .i64 3] W fun e w' => e = .returned (.agg kc.toArray) ∧ Below W.heap.size W w' from by rw [← hkc]; exact Key6_any ⟨#[115]⟩ 3 (by decide) W)
  have hPub := hid (fun W => hkPublic ⟨#[115]⟩ 3 (by decide) W)
  have hSg := hid (fun W => hkSign ⟨#[115]⟩ 3 (by decide) ⟨#[109]⟩ (by decide) W)
  have hSp := hid (fun W => hkSpent ⟨#[115]⟩ ⟨#[109]⟩ (by decide) W)
  have hLf := hid (fun W => show Calls Tryz.prog 9 #[.agg (hCells ⟨#[115]⟩ 3).toArray] W fun e w' => e = .returned (.int .i64 1) ∧ Below W.heap.size W w' from hkLeft ⟨#[115]⟩ 3 (by decide) W)
  have hBd := hid (fun W => show Calls Tryz.prog 4 #[.agg zk.toArray] W fun e w' => e = .returned (.tuple #[.string ⟨#[]⟩, .int .i64 600]) ∧ Below W.heap.size W w' from hPublic_bad 0 0 ⟨#[]⟩ ⟨#[]⟩ 0 rfl W)
  rw [hkc, hpb] at hPub
  rw [hkc, hsg, hkn] at hSg
  rw [hkn] at hSp
  rw [hkc] at hLf
  have hC := hid (hkc ▸ hkKey ⟨#[115]⟩ 3 : KeyH kc)
  have hN := hid (hkn ▸ hkKey ⟨#[115]⟩ 4 : KeyH kn)
  have hZ := hid zhKey
  have zs : sg.size ≤ 140737488351232 := by rw [← hsg, hkSig_size]; decide
  have zp := hid (show ((pb.size : Int) == 60) = true from by rw [← hpb, hkPub_size]; rfl)
  have v1 := hid (fun W => show Calls Tryz.prog 26 #[.string pb, .string ⟨#[109]⟩, .string sg] W fun e w' => e = .returned (.int .i64 0) ∧ Below W.heap.size W w' from by
    have e := hkVerify ⟨#[115]⟩ 3 (by decide) ⟨#[109]⟩ (by decide)
    rw [hpb, hsg] at e
    have h := hVerify_fine pb ⟨#[109]⟩ sg (by decide) zs (by rw [e]; decide) W
    rw [e] at h
    exact h)
  have v2 := hid (fun W => show Calls Tryz.prog 26 #[.string pb, .string ⟨#[120]⟩, .string sg] W fun e w' => e = .returned (.int .i64 602) ∧ Below W.heap.size W w' from by
    have e := hkWrong
    rw [hpb, hsg] at e
    have h := hVerify_fine pb ⟨#[120]⟩ sg (by decide) zs (by rw [e]; decide) W
    rw [e] at h
    exact h)
  have hfour := hid (show kn[4]? = some (.int .i64 4) from by rw [← hkn]; rfl)
  clear hkc hkn hpb hsg zs
  go_enter Tryz.func11, Tryz.ntmps11
  go_wp2_with fail
  refine (hKey.out _).mono ?_
  rintro e W1 ⟨rfl, hb⟩
  have hB1 := hid hb
  clear hb
  go_wp2_with (first
    | ((with_reducible refine at_slot (some 1) ?_); refine wpList_run rfl (.pointer (some ⟨W1.heap.size, 0, none⟩)) (W1.alloc (.cells zk.toArray 23)) (by kernel_rfl) ?_)
    | ((with_reducible refine at_slot none ?_); refine wpList_store_mid rfl 23 (.tmp 1) (.tmp 14) rfl W1.heap.size 0 kc.toArray rfl rfl (by exact hsk_there W1 _ hC.out.len) (by exact hC.out.size) (by exact hC.out.one) ?_; generalize hW : World.setCells _ _ _ _ = W2; obtain ⟨hNw, hb⟩ := hsk_new hC.out.len hW; have hB2 := zup hb hB1; have hK2 := hid hNw; clear hb hNw hB1; clear hW)
    | ((with_reducible refine at_slot (some 16) ?_); refine wpList_load_mid rfl 23 (.tmp 1) rfl W1.heap.size 0 rfl kc _ (by exact h_all hK2.out) Tryz.underlying23 rfl (by exact hC.out.size') ?_)
    | fail)
  refine (hPub.out _).mono ?_
  rintro e W3 ⟨rfl, hb⟩
  have hB3 := zup hb hB2
  have hK3 := zon hb hK2
  clear hb hB2 hK2
  go_wp2_with (first
    | ((with_reducible refine at_slot (some 21) ?_); refine wpList_load_mid rfl 23 (.tmp 1) rfl W1.heap.size 0 rfl kc _ (by exact h_all hK3.out) Tryz.underlying23 rfl (by exact hC.out.size') ?_)
    | fail)
  skip
  refine (hSg.out _).mono ?_
  rintro e W4 ⟨rfl, hb⟩
  have hB4 := zup hb hB3
  have hK4 := zon hb hK3
  clear hb hB3 hK3
  go_wp2_with (first
    | ((with_reducible refine at_slot (some 5) ?_); refine wpList_run rfl (.pointer (some ⟨W4.heap.size, 0, none⟩)) (W4.alloc (.cells zk.toArray 23)) (by kernel_rfl) ?_)
    | ((with_reducible refine at_slot none ?_); refine wpList_store_mid rfl 23 (.tmp 5) (.tmp 24) rfl W4.heap.size 0 kn.toArray rfl rfl (by exact hsk_there W4 _ hN.out.len) (by exact hN.out.size) (by exact hN.out.one) ?_; generalize hW : World.setCells _ _ _ _ = W5; obtain ⟨hNw, hb⟩ := hsk_new hN.out.len hW; have hB5 := zup hb hB4; have hK5 := zon hb hK4; have hN5 := hid hNw; clear hb hNw hB4 hK4; clear hW)
    | fail)
  refine (v1.out _).mono ?_
  rintro e W6 ⟨rfl, hb⟩
  have hB6 := zup hb hB5
  have hK6 := zon hb hK5
  have hN6 := zon hb hN5
  clear hb hB5 hK5 hN5
  go_wp2_with fail
  refine (v2.out _).mono ?_
  rintro e W7 ⟨rfl, hb⟩
  have hB7 := zup hb hB6
  have hK7 := zon hb hK6
  have hN7 := zon hb hN6
  clear hb hB6 hK6 hN6
  go_wp2_with (first
    | ((with_reducible refine at_slot (some 33) ?_); refine wpList_load_mid rfl 23 (.tmp 5) rfl W4.heap.size 0 rfl kn _ (by exact h_all hN7.out) Tryz.underlying23 rfl (by exact hN.out.size') ?_)
    | fail)
  skip
  refine (hSp.out _).mono ?_
  rintro e W8 ⟨rfl, hb⟩
  have hB8 := zup hb hB7
  have hK8 := zon hb hK7
  have hN8 := zon hb hN7
  clear hb hB7 hK7 hN7
  go_wp2_with (first
    | ((with_reducible refine at_slot (some 10) ?_); refine wpList_run rfl (.pointer (some ⟨W8.heap.size, 0, none⟩)) (W8.alloc (.cells zk.toArray 23)) (by kernel_rfl) ?_)
    | ((with_reducible refine at_slot none ?_); refine wpList_store_mid rfl 23 (.tmp 10) (.tmp 36) rfl W8.heap.size 0 zk.toArray rfl rfl (by exact hsk_there W8 _ hZ.out.len) (by exact hZ.out.size) (by exact hZ.out.one) ?_; generalize hW : World.setCells _ _ _ _ = W9; obtain ⟨hNw, hb⟩ := hsk_new hZ.out.len hW; have hB9 := zup hb hB8; have hK9 := zon hb hK8; have hN9 := zon hb hN8; have hY9 := hid hNw; clear hb hNw hB8 hK8 hN8; clear hW)
    | ((with_reducible refine at_slot (some 39) ?_); refine wpList_run rfl (.agg zk.toArray) _ (by kernel_rfl) ?_)
    | fail)
  refine (hBd.out _).mono ?_
  rintro e W10 ⟨rfl, hb⟩
  have hB10 := zup hb hB9
  have hK10 := zon hb hK9
  have hN10 := zon hb hN9
  clear hb hB9 hK9 hN9
  have n4 := hN10.out.c 4 _ hfour.out
  have zp' := zp.out
  go_wp2_with (first
    | (go_at_call 8; refine (errNum_any _ _).mono ?_; rintro e w' ⟨rfl, rfl⟩)
    | ((with_reducible refine at_slot (some 82) ?_); refine wpList_load_any_on (by kernel_rfl) 23 (.tmp 1) rfl ⟨W1.heap.size, 0, none⟩ rfl kc _ (by exact h_any hK10.out) Tryz.underlying23 rfl (by exact hC.out.size') ?_)
    | fail)
  skip
  refine (hLf.out _).mono ?_
  rintro e W11 ⟨rfl, hb⟩
  have hB11 := zup hb hB10
  have hK11 := zon hb hK10
  have hN11 := zon hb hN10
  clear hb hB10 hK10 hN10
  go_wp2_with fail
  go_ret
  exact ⟨rfl, hB11.out⟩
end Go.Proofs.YtmfajekfipfjpaaGreat
