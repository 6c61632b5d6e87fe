/- Package setup: a configuration as text. -/
import Derived.Test.YtcoagmkncjonmaaGreatDoorSu3
import Derived.Test.YtcoagmkncjonmaaGreatDoorPg7
import Derived.Test.YtcoagmkncjonmaaGreatDoorHx
import Derived.Laws.Concat
namespace Go.Proofs.YtcoagmkncjonmaaGreatDoor.Su
open Go.RowKit Go.Sort Go.Shelf St Blk It
open Ad (Cf info_cf load_l load_w)
open Pg (Ops Progs textT)
open Go.Proofs.YtcoagmkncjonmaaGreatDoor.Au (Stab stab_and stab_kept)
open Wh (Fr)
set_option linter.unusedVariables false
set_option linter.unusedSimpArgs false

/-- two texts, one behind the other, under a name -/
theorem cat_str (A B : ByteArray) : ∃ X : ByteArray, Hid (A ++ B = X) ∧ Hid (X.data.toList = A.data.toList ++ B.data.toList) ∧ X.size = A.size + B.size :=
  ⟨A ++ B, by show _ = _; rfl, by show _ = _; simp, by simp⟩
theorem same_bytes {a b : ByteArray} (h : a.data.toList = b.data.toList) : a = b := by rw [str_of a _ h, ← str_of b _ rfl]
theorem nlH : Hid ((⟨#[10]⟩ : ByteArray).data.toList = [10]) := by show _ = _; rfl
theorem pwH : Hid ((⟨#[112, 114, 111, 103, 114, 97, 109]⟩ : ByteArray).data.toList = progW) := by show _ = _; rfl
theorem mem_getD {l : List Int} {k : Nat} (h : k < l.length) : l.getD k 0 ∈ l := by
  rw [List.getD_eq_getElem?_getD, List.getElem?_eq_getElem h]; exact List.getElem_mem _

/-- what lies beside a builder, and is none of its blocks, stays as it was -/
theorem write_beside {w0 : World} {total : List UInt8} (hT : total.length ≤ 1099511627776) {acc rest l : List UInt8} (E : ByteArray) (hE : Hid (E.data.toList = l)) {w : World} (h : Sb.At w0 total acc (l ++ rest) w) :
    Calls Tryz.prog 22 #[.pointer (some ⟨w0.heap.size, 0, none⟩), .string E] w fun e w' => e = .returned (.tuple #[.int .i64 E.size, .nilIface]) ∧ Sb.At w0 total (acc ++ l) rest w' ∧ w.heap.size ≤ w'.heap.size ∧ (∀ k cs t, w.heap[k]? = some (.cells cs t (0, 0)) → t ≠ 5 → k ≠ w0.heap.size → w'.heap[k]? = some (.cells cs t (0, 0))) ∧ ∀ k, k < w.heap.size → k ≠ w0.heap.size → (∀ v, w.cell? ⟨w0.heap.size, 1, none⟩ = some v → v.ownBlock ≠ some k) → w'.heap[k]? = w.heap[k]? := by
  have h2 := hE.out
  subst h2
  have hl : acc.length + (E.data.toList.length + rest.length) = total.length := by rw [← h.2.2.2]; simp
  refine (Sb.write_far _ _ _ E w h.1 (by rw [Lib.byteCells_length, size_list]; omega) (by have := h.2.2.1; omega)).mono ?_
  rintro e w' ⟨rfl, h1, h2, h3⟩
  refine ⟨rfl, ⟨?_, Below.trans h.2.1 h2, Nat.le_trans h.2.2.1 (Below.size h2), by rw [List.append_assoc]; exact h.2.2.2⟩, h2.size, fun k cs t hk ht hkb => ?_, h3⟩
  · rw [Lib.byteCells_append, ← Lib.strCells_eq]; exact h1
  · rw [h3 k (blk_lt hk) hkb fun v hv e => ?_]
    · exact hk
    · have hlt : ∀ p, Lib.BuilderAt 56 5 w0.heap.size w0.heap.size p (Lib.byteCells acc) w → False := fun p hp => by
        obtain ⟨hB, v2, hb, hown, _⟩ := hp
        rw [blk_cell hb] at hv
        have hv2 : v2 = v := by simpa using hv
        subst hv2
        rcases hown.2 with ⟨hn, _⟩ | ⟨g, cap, cur, hv3, _, hg, _⟩
        · rw [hn] at e; cases e
        · rw [hv3] at e
          cases e
          rw [hk] at hg
          cases hg
          exact ht rfl
      rcases h.1 with hp | hp
      · exact hlt _ hp
      · exact hlt _ hp

/-- a builder's buffer is no block to come -/
theorem buf_lt {w0 : World} {total acc rest : List UInt8} {w : World} (h : Sb.At w0 total acc rest w) : ∃ v, w.cell? ⟨w0.heap.size, 1, none⟩ = some v ∧ ∀ g, v.ownBlock = some g → g < w.heap.size := by
  have hlt : ∀ p, Lib.BuilderAt 56 5 w0.heap.size w0.heap.size p (Lib.byteCells acc) w → ∃ v, w.cell? ⟨w0.heap.size, 1, none⟩ = some v ∧ ∀ g, v.ownBlock = some g → g < w.heap.size := fun p hp => by
    obtain ⟨hB, v2, hb, hown, _⟩ := hp
    exact ⟨v2, by rw [blk_cell hb]; rfl, fun g e => (World.ownsRow.lt hown g e).2⟩
  rcases h.1 with hp | hp
  · exact hlt _ hp
  · exact hlt _ hp
theorem beside_far {w0 : World} {total acc rest : List UInt8} {X v : World} (h : Sb.At w0 total acc rest X) (hv : Kept X v) {k : Nat} (hk : X.heap.size ≤ k) : k ≠ w0.heap.size ∧ ∀ u, v.cell? ⟨w0.heap.size, 1, none⟩ = some u → u.ownBlock ≠ some k := by
  obtain ⟨u0, c0, hb⟩ := buf_lt h
  refine ⟨fun e => by have := h.2.2.1; omega, fun u hu e => ?_⟩
  have := (Below.cell hv (p := ⟨w0.heap.size, 1, none⟩) (by have := h.2.2.1; show w0.heap.size < _; omega)).trans c0
  rw [this] at hu
  cases hu
  have := hb k e
  omega

theorem line_len {k : Nat} (hk : k < 13) {n : Int} (h : Ad.Wd n) : (lineT k n).length ≤ 40 := by
  have h1 := Lib.itoa_length_le n h.1 h.2
  have h2 : (wordL k).length ≤ 10 := by
    rcases k_cases hk with rfl | rfl | rfl | rfl | rfl | rfl | rfl | rfl | rfl | rfl | rfl | rfl | rfl <;> decide
  unfold lineT
  rw [List.length_append, List.length_cons]; omega
theorem sets_len {l : List Int} (hl : ∀ n ∈ l, Ad.Wd n) (h13 : l.length = 13) : ∀ i, i ≤ 13 → (setsT l (13 - i)).length ≤ 41 * i
  | 0, _ => by rw [sets_end]; simp
  | i + 1, h => by
    have ih := sets_len hl h13 i (by omega)
    have e : 13 - i = (13 - (i + 1)) + 1 := by omega
    rw [sets_step l (show 13 - (i + 1) < 13 by omega), ← e, List.length_append, List.length_append]
    have hm : l.getD (13 - (i + 1)) 0 ∈ l := mem_getD (by omega)
    have := line_len (k := 13 - (i + 1)) (by omega) (hl _ hm)
    simp only [List.length_cons, List.length_nil]; omega
theorem prog_len {L : List Pg.Op} (hl : L.length ≤ 1000) (hf : ∀ o ∈ L, o.Fit) : (progT L ++ [10]).length ≤ 60000 := by
  have h1 : (textT L).length ≤ 52000 := by
    unfold textT
    split
    · rename_i h
      have := Pg.join_len h hf; omega
    · simp
  have h2 : (behind (textT L)).length ≤ 52001 := by unfold behind; split <;> simp; omega
  have h3 : progW.length = 7 := rfl
  unfold progT
  simp only [List.length_append, List.length_cons, List.length_nil]; omega
theorem progs_len {M : List (List Pg.Op)} (hl : ∀ L ∈ M, L.length ≤ 1000) (hf : ∀ L ∈ M, ∀ o ∈ L, o.Fit) : (progsT M).length ≤ 60000 * M.length := by
  induction M with
  | nil => simp [progsT]
  | cons L M ih =>
    have h1 := prog_len (hl L (by simp)) (hf L (by simp))
    have h2 := ih (fun x hx => hl x (by simp [hx])) (fun x hx => hf x (by simp [hx]))
    have e : progsT (L :: M) = (progT L ++ [10]) ++ progsT M := rfl
    rw [e, List.length_append, List.length_cons]; omega

/-- what there is of a configuration's text, when i settings are told -/
theorem stab_box (g : Nat) (cs : Array Value) (t : TypeId) : Stab (fun u => u.heap[g]? = some (.cells cs t (0, 0))) := fun u u' h k => kept_at k h
theorem ld_str {u : World} {b i : Nat} {s : ByteArray} (h : u.cell? ⟨b, i, none⟩ = some (.string s)) : (loadVar 9 ⟨b, i, none⟩).run Tryz.prog u = .ok (.string s) u := by go_simp
theorem ld_ptr {u : World} {b i : Nat} {p : Option Addr} (h : u.cell? ⟨b, i, none⟩ = some (.pointer p)) : (loadVar 50 ⟨b, i, none⟩).run Tryz.prog u = .ok (.pointer p) u := by go_simp
theorem ld_i {u : World} {b i : Nat} {n : Int} (h : u.cell? ⟨b, i, none⟩ = some (.int .i64 n)) : (loadVar 3 ⟨b, i, none⟩).run Tryz.prog u = .ok (.int .i64 n) u := by go_simp

set_option maxRecDepth 100000 in
set_option maxHeartbeats 4000000 in
theorem text_any {w : World} {c : Cf} {M : List (List Pg.Op)} (hv : Progs w (.slice c.pa c.pn c.pc) M) (hl : M.length ≤ 1000) (hL : ∀ L ∈ M, L.length ≤ 1000) (hf : ∀ L ∈ M, ∀ o ∈ L, o.Fit) (hn : ∀ n ∈ numsL c, Ad.Wd n) (E : ByteArray) (hE : Hid (E.data.toList = cfgT (numsL c) M)) (ht : Tab w) :
    Calls Tryz.prog 9 #[.agg c.arr] w fun e w' => e = .returned (.string E) ∧ Kept w w' := by
  obtain ⟨W, hW⟩ : ∃ W, w.alloc (.cells c.arr 24) = W := ⟨_, rfl⟩
  have hkW : Kept w W := by rw [← hW]; exact Kept.one _ _
  have hbW : W.heap[w.heap.size]? = some (.cells c.arr 24 (0, 0)) := by rw [← hW]; exact blk_new _ _
  have hsW : W.heap.size = w.heap.size + 1 := by rw [← hW]; simp
  obtain ⟨total, hT⟩ : ∃ t, cfgT (numsL c) M = t := ⟨_, rfl⟩
  have HLN := Lib.hid (show total.length ≤ 1099511627776 by
    rw [← hT]; unfold cfgT; rw [List.length_append]
    have h1 := sets_len hn (nums_len c) 13 (by omega)
    have h2 := progs_len hL hf
    simp only [Nat.sub_self] at h1
    have h3 : 60000 * M.length ≤ 60000 * 1000 := Nat.mul_le_mul_left _ hl
    omega)
  have HE := Lib.hid (hE.out.trans hT)
  have HC := Lib.hid (fun w => settings_any (W.heap.size - 1) w)
  rw [show W.heap.size - 1 = w.heap.size by omega] at HC
  obtain ⟨B0, hB0⟩ : ∃ B0, W.alloc (.cells #[.pointer none, .slice none 0 0] 56) = B0 := ⟨_, rfl⟩
  have hA0 : Sb.At W total [] (setsT (numsL c) 0 ++ progsT M) B0 := by rw [← hB0, show setsT (numsL c) 0 ++ progsT M = total from hT]; exact Sb.At.new W total
  have HW := Lib.hid hW
  have HB0 := Lib.hid hB0
  have HA0 := Lib.hid hA0
  have HK := Lib.hid (And.intro hkW (And.intro hbW hsW))
  have HV := Lib.hid (And.intro hv (And.intro hl (And.intro hL (And.intro hf (And.intro hn ht)))))
  obtain ⟨q, N, cap, hq, hN, hm⟩ := hv.slice
  have HQ := Lib.hid (And.intro hq hN)
  clear hv hl hL hf hn hE ht hW hB0 hA0 hkW hbW hsW hT hq hN hm
  go_enter Tryz.func9, Tryz.ntmps9
  go_upto_region 1 with fail
  rw [HW.out]
  go_upto_region 2 with fail
  rw [HB0.out]
  go_wp2_with (go_at_call 21; refine (HC.out _).mono ?_; rintro e w1 ⟨g, rfl, hg, hb, hk⟩; have H1 := Lib.hid (And.intro hg (And.intro hb hk)); clear hg hb hk)
  go_loopw [11] (fun x wr => ∃ (i : Nat) (acc : List UInt8), i ≤ 13 ∧ x = .int .i64 (i : Int) ∧ Sb.At W total acc (setsT (numsL c) i ++ progsT M) wr ∧ wr.heap[g]? = some (.cells (setA w.heap.size) 52 (0, 0))) (fun x _ => 13 - (intOf x).toNat)
  case atStart => exact ⟨0, [], by omega, rfl, HA0.out.go H1.out.2.2, H1.out.2.1⟩
  case round =>
    obtain ⟨i, acc, hi, rfl, hA, hb⟩ := hrel
    by_cases hlt : i < 13
    · obtain ⟨W1, hW1⟩ : ∃ W1, wordB i = W1 := ⟨_, rfl⟩
      have hq := set_at w.heap.size hlt
      rw [hW1] at hq
      have p0 : wr.cell? ⟨g, i * 2, none⟩ = some (.string W1) := by rw [blk_cell hb]; exact hq.1
      have p1 : wr.cell? ⟨g, i * 2 + 1, none⟩ = some (.pointer (some ⟨w.heap.size, i, none⟩)) := by rw [blk_cell hb]; exact hq.2
      have hx0 : (i : Int) < 13 := by omega
      obtain ⟨n, hn⟩ : ∃ n, (numsL c).getD i 0 = n := ⟨_, rfl⟩
      have hmem : n ∈ numsL c := by rw [← hn]; exact mem_getD (by rw [nums_len]; exact hlt)
      have hwd := HV.out.2.2.2.2.1 n hmem
      have hbc : wr.heap[w.heap.size]? = some (.cells c.arr 24 (0, 0)) := kept_at hA.kept HK.out.2.1
      have hc2 : wr.cell? ⟨w.heap.size, i, none⟩ = some (.int .i64 n) := by rw [blk_cell hbc, arr_at c hlt, hn]
      obtain ⟨I, hI⟩ : ∃ I : ByteArray, Hid (I.data.toList = Lib.itoa n) := ⟨⟨(Lib.itoa n).toArray⟩, rfl⟩
      have hIl := Lib.itoa_length_le n hwd.1 hwd.2
      have hIs : I.size ≤ 21 := by rw [size_list, hI.out]; exact hIl
      have hWs : W1.size ≤ 10 := by
        rw [← hW1]
        rcases k_cases hlt with rfl | rfl | rfl | rfl | rfl | rfl | rfl | rfl | rfl | rfl | rfl | rfl | rfl <;> decide
      obtain ⟨X1, HE1, l1, s1⟩ := cat_str W1 ⟨#[32]⟩
      have s1' : X1.size = W1.size + 1 := s1
      obtain ⟨X2, HE2, l2, s2⟩ := cat_str X1 I
      obtain ⟨X3, HE3, l3, s3⟩ := cat_str X2 ⟨#[10]⟩
      have n1 : ¬ 9223372036854775807 < W1.size + 1 := by omega
      have n2 : ¬ 9223372036854775807 < X1.size + I.size := by omega
      have n3 : ¬ 9223372036854775807 < X2.size + 1 := by omega
      have HX3 : Hid (Hid (X3.data.toList = lineT i n ++ [10])) := by
        show X3.data.toList = _
        rw [l3.out, l2.out, l1.out, hI.out, ← hW1]
        show (((wordL i) ++ [32]) ++ Lib.itoa n) ++ [10] = _
        unfold lineT; simp
      have HIT := Lib.hid (fun (u : World) (hu : Tab u) => itoa_any n hwd.1 hwd.2 I hI u hu)
      obtain ⟨X, hX⟩ : ∃ X, wr.alloc (.cells #[.string W1, .pointer (some ⟨w.heap.size, i, none⟩)] 52) = X := ⟨_, rfl⟩
      have hkX : Kept wr X := by rw [← hX]; exact Kept.one _ _
      have hXb : X.heap[wr.heap.size]? = some (.cells #[.string W1, .pointer (some ⟨w.heap.size, i, none⟩)] 52 (0, 0)) := by rw [← hX]; exact blk_new _ _
      have x0 : X.cell? ⟨wr.heap.size, 0, none⟩ = some (.string W1) := by rw [blk_cell hXb]; rfl
      have x1 : X.cell? ⟨wr.heap.size, 1, none⟩ = some (.pointer (some ⟨w.heap.size, i, none⟩)) := by rw [blk_cell hXb]; rfl
      have hbcX := kept_at hkX hbc
      have x2 : X.cell? ⟨w.heap.size, i, none⟩ = some (.int .i64 n) := by rw [blk_cell hbcX, arr_at c hlt, hn]
      have HX0 := Lib.hid hXb
      have HXC := Lib.hid hbcX
      have HTX := Lib.hid (HV.out.2.2.2.2.2.kept (HK.out.1.trans (hA.kept.trans hkX)))
      have HAX := Lib.hid (show Sb.At W total acc ((lineT i n ++ [10]) ++ (setsT (numsL c) (i + 1) ++ progsT M)) X by
        have := hA.go hkX
        rw [sets_step _ hlt, hn, List.append_assoc] at this
        exact this)
      have HBG := Lib.hid (kept_at hkX hb)
      have HXX := Lib.hid hX
      have HGN := Lib.hid (show g ≠ W.heap.size by have h1 := H1.out.1; have h2 := HB0.out; rw [← h2] at h1; simp at h1; omega)
      have HZX := Lib.hid hkX.size
      clear hA hb hq hbc hc2 hn hmem hI hIl hIs hWs l1 l2 l3 s1 s1' s2 s3 hwd hX hkX hXb hbcX hW1
      go_upto_region 5 with fail
      rw [HXX.out]
      refine Hx.region [(0, .bare), (1, .take [9, 8, 2]), (2, .bare), (3, .bare), (4, .take [7, 6, 5]), (5, .bare), (6, .take [7]), (7, .take []), (8, .bare), (9, .bare), (10, .step)] 10 (fun u => Kept X u) (fun u => Kept X u) (X.heap.size) (by kernel_rfl) (by kernel_rfl) (fun d _ _ _ _ h => by cases d <;> exact h) (fun d _ _ _ _ h => by cases d <;> exact h) (Hx.mk_none (by decide)) (stab_kept X) (fun _ h => h) ((Kept.refl X).drew) (fun u hu => hu.size) ?_
      refine Hx.bare (d := (some 15)) (v := ?_) rfl rfl (Au.yq_run (by rfl) (fun u hu => ?_)) ?_
      rotate_left
      · (clear hu; go_simp; try with_reducible rfl)
      simp only [Act.put, List.setIfInBounds_toArray, List.set_cons_zero, List.set_cons_succ]
      refine Hx.take (d := (some 16)) rfl rfl (Au.yq_load 9 (.tmp 15) rfl _ rfl (by rfl) (fun u hu => ld_str ((Below.cell hu (p := ⟨wr.heap.size, 0, none⟩) (blk_lt HX0.out)).trans x0))) ?_
      simp only [Act.put, List.setIfInBounds_toArray, List.set_cons_zero, List.set_cons_succ]
      refine Hx.bare (d := (some 17)) (v := .string X1) rfl rfl (Au.yq_run (by rfl) (fun u hu => ?_)) ?_
      · (clear hu; go_simp; first | rw [HE1.out] | rw [HE2.out] | rw [HE3.out])
      simp only [Act.put, List.setIfInBounds_toArray, List.set_cons_zero, List.set_cons_succ]
      refine Hx.bare (d := (some 18)) (v := ?_) rfl rfl (Au.yq_run (by rfl) (fun u hu => ?_)) ?_
      rotate_left
      · (clear hu; go_simp; try with_reducible rfl)
      simp only [Act.put, List.setIfInBounds_toArray, List.set_cons_zero, List.set_cons_succ]
      refine Hx.take (d := (some 19)) rfl rfl (Au.yq_load 50 (.tmp 18) rfl _ rfl (by rfl) (fun u hu => ld_ptr ((Below.cell hu (p := ⟨wr.heap.size, 1, none⟩) (blk_lt HX0.out)).trans x1))) ?_
      simp only [Act.put, List.setIfInBounds_toArray, List.set_cons_zero, List.set_cons_succ]
      refine Hx.bare (d := (some 20)) (v := ?_) rfl rfl (Au.yq_run (by rfl) (fun u hu => ?_)) ?_
      rotate_left
      · (clear hu; go_simp; try with_reducible rfl)
      simp only [Act.put, List.setIfInBounds_toArray, List.set_cons_zero, List.set_cons_succ]
      refine Hx.take (d := (some 21)) rfl rfl (Au.yq_load 3 (.tmp 20) rfl _ rfl (by rfl) (fun u hu => ld_i ((Below.cell hu (p := ⟨w.heap.size, i, none⟩) (blk_lt HXC.out)).trans x2))) ?_
      simp only [Act.put, List.setIfInBounds_toArray, List.set_cons_zero, List.set_cons_succ]
      refine Hx.take (d := (some 22)) rfl rfl (Au.yq_call 23 _ (by rfl) (fun u => by go_simp) (fun u hu => HIT.out u (HTX.out.kept hu))) ?_
      simp only [Act.put, List.setIfInBounds_toArray, List.set_cons_zero, List.set_cons_succ]
      refine Hx.bare (d := (some 23)) (v := .string X2) rfl rfl (Au.yq_run (by rfl) (fun u hu => ?_)) ?_
      · (clear hu; go_simp; first | rw [HE1.out] | rw [HE2.out] | rw [HE3.out])
      simp only [Act.put, List.setIfInBounds_toArray, List.set_cons_zero, List.set_cons_succ]
      refine Hx.bare (d := (some 24)) (v := .string X3) rfl rfl (Au.yq_run (by rfl) (fun u hu => ?_)) ?_
      · (clear hu; go_simp; first | rw [HE1.out] | rw [HE2.out] | rw [HE3.out])
      simp only [Act.put, List.setIfInBounds_toArray, List.set_cons_zero, List.set_cons_succ]
      refine Hx.step rfl rfl (fun v hv KK hK => ?_)
      have HV2 := Lib.hid hv
      have hAv := HAX.out.go hv
      clear hv
      go_wp2_with (go_at_call 22; refine (write_beside HLN.out X3 HX3.out hAv).mono ?_; rintro e w2 ⟨rfl, hA2, hz2, hb2⟩; have HA2 := Lib.hid (And.intro hA2 (And.intro hz2 hb2)); clear hA2 hz2 hb2 hAv)
      refine hK.out (fun u => Kept w2 u) _ w2 (Kept.refl _) (stab_kept w2) (fun h => absurd h (by decide)) ⟨HA2.out.2.1, fun k c1 c2 c3 => HA2.out.2.2.2 k c2 (beside_far HAX.out HV2.out c1).1 (beside_far HAX.out HV2.out c1).2⟩ ?_
      refine Hx.nil (fun u hu => ?_)
      have HU := Lib.hid (And.intro (HA2.out.1.go hu) (kept_at hu (HA2.out.2.2.1 g _ _ (kept_at HV2.out HBG.out) (by decide) HGN.out)))
      clear hu hK KK
      go_wp2_with fail
      go_roundw
      case rel => exact ⟨i + 1, _, by omega, by go_num, HU.out.1, HU.out.2⟩
      case measure => simp [intOf]; omega
    · obtain rfl : i = 13 := by omega
      rw [show ((13 : Nat) : Int) = 13 from rfl]
      have hA2 : Sb.At W total acc (progsT M) wr := by have h := hA; rw [sets_end] at h; exact h
      have hb13 := kept_at hA.kept HK.out.2.1
      have c13 : wr.cell? ⟨w.heap.size, 13, none⟩ = some (.slice q N cap) := by rw [blk_cell hb13, ← HQ.out.1]; rfl
      have HA3 := Lib.hid hA2
      have hNlt : N ≤ 1000 := by rw [← HQ.out.2]; exact HV.out.2.1
      clear hA hA2 hb hb13
      go_wp2_with fail
      go_loopw [30] (fun x wr => ∃ (j : Nat) (acc : List UInt8), j ≤ N ∧ x = .int .i64 (j : Int) ∧ Sb.At W total acc (progsT (M.drop j)) wr) (fun x _ => N - (intOf x).toNat)
      case atStart => exact ⟨0, acc, Nat.zero_le _, rfl, HA3.out⟩
      case round =>
        obtain ⟨j, acc2, hj, rfl, hA⟩ := hrel
        by_cases hlt : j < N
        · have hkq := HK.out.1.trans hA.kept
          have hvw := HV.out.1
          rw [HQ.out.1] at hvw
          obtain ⟨L, b, off, x, hL, rfl, d00, hx⟩ := hvw.pick (i := j) (by rw [HQ.out.2]; exact hlt)
          have d0 := (Below.cell hkq (p := ⟨b, off + j, none⟩) (World.block_lt_of_cell? w _ d00)).trans d00
          obtain ⟨T, hT⟩ : ∃ T : ByteArray, Hid (T.data.toList = textT L) := ⟨⟨(textT L).toArray⟩, rfl⟩
          have hmem := List.mem_of_getElem? hL
          have hps := progs_step hL
          have HR := Lib.hid (show Sb.At W total acc2 (progW ++ (behind (textT L) ++ ([10] ++ progsT (M.drop (j + 1))))) wr by
            have h := hA
            rw [hps] at h
            unfold progT at h
            simpa [List.append_assoc] using h)
          have HTC := Lib.hid (fun (u : World) (hu : Kept w u) => Pg.text_any (hx.go hu) (HV.out.2.2.1 L hmem) (HV.out.2.2.2.1 L hmem) T hT (HV.out.2.2.2.2.2.kept hu))
          obtain ⟨xp, xn, xc, rfl, _, _⟩ := hx.slice
          by_cases h0 : textT L = []
          · obtain rfl : T = ⟨#[]⟩ := by
              have h := hT.out
              rw [h0] at h
              exact same_bytes h
            have HR2 := Lib.hid (show Sb.At W total acc2 (progW ++ ([10] ++ progsT (M.drop (j + 1)))) wr by
              have h := HR.out
              rw [show behind (textT L) = [] by unfold behind; rw [if_pos h0]] at h
              exact h)
            clear hA hkq hvw hL hmem hps HR hT h0 d00
            go_wp2_with (first
              | (go_at_call 19; refine (HTC.out _ k1).mono ?_; rintro e w3 ⟨rfl, k3⟩; have A3 := A1.go k3; clear k1 k3)
              | (go_at_call 22; first
                | ((with_reducible refine (Sb.write_E HLN.out _ pwH HR2.out).mono ?_); rintro e w2 ⟨rfl, A1⟩; have k1 := HK.out.1.trans A1.kept)
                | ((with_reducible refine (Sb.write_E HLN.out _ nlH A3).mono ?_); rintro e w4 ⟨rfl, A4⟩)))
            go_roundw
            case rel => exact ⟨j + 1, _, hlt, by go_num, A4⟩
            case measure => simp [intOf]; omega
          · have hne : T.toList.isEmpty = false := by rw [ByteArray.toList_eq, hT.out]; exact List.isEmpty_eq_false_iff.2 h0
            obtain ⟨X, HE1, l1, s1⟩ := cat_str ⟨#[32]⟩ T
            have hX : Hid (X.data.toList = behind (textT L)) := by
              show _ = _
              rw [l1.out, hT.out]; unfold behind; rw [if_neg h0]; rfl
            have n1 : ¬ 9223372036854775807 < 1 + T.size := by
              have h1 := HLN.out
              have h2 := HR.out.2.2.2
              have h3 := congrArg List.length h2
              have h4 := congrArg List.length hX.out
              have h5 := congrArg List.length l1.out
              rw [← size_list, List.length_append, ← size_list] at h5
              simp only [List.length_append] at h3
              rw [← size_list] at h4
              have h6 : (⟨#[32]⟩ : ByteArray).data.toList.length = 1 := rfl
              omega
            have HXX := Lib.hid hX
            have HE2 := Lib.hid HE1
            clear hA hkq hvw hL hmem hps hT h0 d00 hX HE1 l1 s1
            go_wp2_with (first
              | (go_at_call 19; refine (HTC.out _ k1).mono ?_; rintro e w3 ⟨rfl, k3⟩; have A3 := A1.go k3; clear k1 k3)
              | (go_at_call 22; first
                | ((with_reducible refine (Sb.write_E HLN.out _ pwH HR.out).mono ?_); rintro e w2 ⟨rfl, A1⟩; have k1 := HK.out.1.trans A1.kept)
                | (rw [HE2.out.out]; (with_reducible refine (Sb.write_E HLN.out _ HXX.out A3).mono ?_); rintro e w4 ⟨rfl, A4⟩)
                | ((with_reducible refine (Sb.write_E HLN.out _ nlH A4).mono ?_); rintro e w5 ⟨rfl, A5⟩)))
            go_roundw
            case rel => exact ⟨j + 1, _, hlt, by go_num, A5⟩
            case measure => simp [intOf]; omega
        · obtain rfl : j = N := by omega
          have hA2 : Sb.At W total acc2 [] wr := by have h := hA; rw [List.drop_of_length_le (by rw [HQ.out.2]; exact Nat.le_refl _)] at h; exact h
          clear hA
          go_wp2_with (go_at_call 24; refine (Sb.string_as HE hA2).mono ?_; rintro e w' ⟨rfl, hk2⟩)
          go_ret
          exact ⟨rfl, HK.out.1.trans hk2⟩

end Go.Proofs.YtcoagmkncjonmaaGreatDoor.Su
