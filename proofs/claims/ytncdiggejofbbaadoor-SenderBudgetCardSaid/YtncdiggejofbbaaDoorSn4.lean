/- The document's own answer for a call that is sent. -/
import Derived.Test.YtncdiggejofbbaaDoorSn3
namespace Go.Proofs.YtncdiggejofbbaaDoor.Sn
open Go.RowKit Go.Sort Go.Shelf St PkM Ad Po Blk Eqs
open Go.Proofs.YtncdiggejofbbaaDoor.Cl
open Go.Proofs.YtncdiggejofbbaaDoor.Ow
open Go.Proofs.YtncdiggejofbbaaDoor.Au (Stab stab_and)
open Go.Proofs.YtncdiggejofbbaaDoor.Ad (load_w load_l store_new)
set_option linter.unusedVariables false

theorem Bl.six (w : World) (a b c d e f : Array Value) (ta tb tc td te tf : TypeId) : Bl w ((((((w.alloc (.cells a ta)).alloc (.cells b tb)).alloc (.cells c tc)).alloc (.cells d td)).alloc (.cells e te)).alloc (.cells f tf)) [(a, ta), (b, tb), (c, tc), (d, td), (e, te), (f, tf)] := Bl.start [(a, ta), (b, tb), (c, tc), (d, td), (e, te), (f, tf)] w

/-- what loads ahead of the end read -/
def Tr (w : World) (X P B : Array Value) (g : Nat) (u : World) : Prop := u.heap[w.heap.size + 2]? = some (.cells X 33 (0, 0)) ∧ u.heap[w.heap.size + 5]? = some (.cells P 37 (0, 0)) ∧ u.heap[g]? = some (.cells B 33 (0, 0))
theorem World.heap_setCell_ne' {u : World} {g i : Nat} {o : Obj} (h : u.heap[i]? = some o) (hn : i ≠ g) (k : Nat) (v : Value) : (u.setCell ⟨g, k, none⟩ v).heap[i]? = some o := (Below.heap_setCell _ _ _ _ hn).trans h
theorem other_row {u : World} {g i : Nat} {xs : Array Value} {o : Obj} (h : u.heap[i]? = some o) (hn : i ≠ g) : (u.setRow g xs).heap[i]? = some o := by rw [setRow_other _ _ _ _ hn]; exact h

set_option maxRecDepth 100000 in
set_option maxHeartbeats 4000000 in
theorem rsend_far (cf : Cf) (me : Int) (o : Ow) (x : Cl) (now : Int) (q : Option Addr) (N c : Nat) (w : World) (ha : Wd x.att) (h : (x.st = 0 ∨ x.st = 2) ∧ x.att < 5) (h2 : cf.hops ≤ o.hp) :
    Calls Tryd.prog 12 #[.agg cf.arr, .int .i64 me, .agg (o.arr q N c), .agg x.arr, .int .i64 now] w fun e w' => e = .returned (.tuple #[.agg (snd cf me o x now).1.arr, .agg (snd cf me o x now).2.arr]) ∧ Kept w w' := by
  obtain ⟨F, hF⟩ : ∃ F, cf.arr = F := ⟨_, rfl⟩
  obtain ⟨A, hA⟩ : ∃ A, o.arr q N c = A := ⟨_, rfl⟩
  obtain ⟨X, hX⟩ : ∃ X, x.arr = X := ⟨_, rfl⟩
  obtain ⟨b, hb⟩ : ∃ b, beg x now = b := ⟨_, rfl⟩
  obtain ⟨B, hB⟩ : ∃ B, b.arr = B := ⟨_, rfl⟩
  have sX : X.size = 13 := by rw [← hX]; rfl
  have sB : B.size = 13 := by rw [← hB]; rfl
  have oX : X.all (·.oneCell') = true := by rw [← hX]; exact cl_one x
  have oB : B.all (·.oneCell') = true := by rw [← hB]; exact cl_one b
  have x3 : X[3]? = some (.int .i64 x.to) := by rw [← hX]; rfl
  have x4 : X[4]? = some (.int .i64 x.pr) := by rw [← hX]; rfl
  have c0 : A[0]? = some (.int .i64 o.kn) := by rw [← hA]; rfl
  have c1 : A[1]? = some (.int .i64 o.ki) := by rw [← hA]; rfl
  have c2 : A[2]? = some (.int .i64 o.ks) := by rw [← hA]; rfl
  have c3 : A[3]? = some (.int .i64 o.ka) := by rw [← hA]; rfl
  have c4 : A[4]? = some (.int .i64 o.rn) := by rw [← hA]; rfl
  have c5 : A[5]? = some (.int .i64 o.ri) := by rw [← hA]; rfl
  have c6 : A[6]? = some (.int .i64 o.rs) := by rw [← hA]; rfl
  have c12 : A[12]? = some (.int .i64 o.hp) := by rw [← hA]; rfl
  have c13 : A[13]? = some (.int .i64 o.dl) := by rw [← hA]; rfl
  have c14 : A[14]? = some (.int .i64 o.un) := by rw [← hA]; rfl
  have d4 : F[4]? = some (.int .i64 cf.least) := by rw [← hF]; rfl
  have d5 : F[5]? = some (.int .i64 cf.hops) := by rw [← hF]; rfl
  have C1 := Lib.hid (show ∀ u, Calls Tryd.prog 38 #[.agg X, .int .i64 now] u fun e w' => e = .returned (.agg B) ∧ Kept u w' from fun u => by rw [← hX, ← hB, ← hb]; exact rbeg_any x ha now u)
  obtain ⟨W5, hW5⟩ : ∃ W5, ((((w.alloc (.cells F 24)).alloc (.cells A 31)).alloc (.cells X 33)).alloc (.cells zeroC 33)).alloc (.cells zeroP 37) = W5 := ⟨_, rfl⟩
  have HP := Lib.hid (show W5.heap.size = w.heap.size + 1 + 1 + 1 + 1 + 1 by rw [← hW5]; simp)
  obtain ⟨W, hW⟩ : ∃ W, W5.alloc (.cells zeroP 37) = W := ⟨_, rfl⟩
  have hL : Bl w W [(F, 24), (A, 31), (X, 33), (zeroC, 33), (zeroP, 37), (zeroP, 37)] := by rw [← hW, ← hW5]; exact Bl.six w F A X _ _ _ _ _ _ _ _ _
  have HW5 := Lib.hid hW5
  have HW := Lib.hid hW
  clear hW5
  have HS := Lib.hid hL
  rw [hF, hA, hX]
  clear hW hL
  have he : ∀ u, (binOp .eql 33 (.agg B) (.agg X)).run Tryd.prog u = .ok (.bool false) u := fun u => by rw [← hB, ← hX, ← hb]; exact (eq_rcl _ _ u).trans (by rw [beg_same h])
  rw [snd_far h h2]
  obtain ⟨E, hE⟩ : ∃ E, (ends x 8).arr = E := ⟨_, rfl⟩
  have sE : E.size = 13 := by rw [← hE]; rfl
  have oE : E.all (·.oneCell') = true := by rw [← hE]; exact cl_one _
  have CE := Lib.hid (show ∀ u, Calls Tryd.prog 39 #[.agg X, .int .i64 8] u fun e w' => e = .returned (.agg E) ∧ Kept u w' from fun u => by rw [← hX, ← hE]; exact rends_any x 8 u)
  rw [show (ends x 8, Pk.none).1.arr = E from hE]
  clear hE h
  clear hF hA hX hb hB
  go_enter Tryd.func12, Tryd.ntmps12
  go_upto_region 1 with fail
  rw [show ((((w.alloc (.cells F 24)).alloc (.cells A 31)).alloc (.cells X 33)).alloc (.cells #[.int .i64 0, .int .i64 0, .int .i64 0, .int .i64 0, .int .i64 0, .int .i64 0, .int .i64 0, .int .i64 0, .int .i64 0, .bool false, .int .i64 0, .int .i64 0, .int .i64 0] 33)).alloc (.cells #[.int .i64 0, .int .i64 0, .int .i64 0, .int .i64 0, .int .i64 0, .int .i64 0, .int .i64 0, .int .i64 0, .int .i64 0, .string ⟨#[]⟩, .int .i64 0, .int .i64 0, .int .i64 0, .int .i64 0, .int .i64 0, .int .i64 0, .int .i64 0, .int .i64 0, .int .i64 0, .int .i64 0, .int .i64 0, .bool false, .int .i64 0] 37) = W5 from HW5.out]
  go_upto_region 2 with (refine store_new rfl 37 (.tmp 12) (.tmp 14) rfl W5.heap.size zeroP rfl rfl W5 _ rfl 23 info_pk rfl rfl (pk_one _) ?_)
  rw [show W5.alloc (.cells zeroP 37) = W from HW.out, HP.out]
  go_upto_region 3 with (first
    | (refine load_w 33 (.tmp 8) rfl (w.heap.size + 1 + 1) rfl rfl X 13 (HS.out.blk 2 rfl) Tryd.underlying33 sX info_rcl ?_)
    | (go_at_call 38; refine (C1.out _).mono ?_; rintro e u ⟨rfl, k⟩)
    | (refine store_new rfl 33 (.tmp 13) (.tmp 17) rfl u.heap.size B rfl rfl u _ rfl 13 info_rcl sB rfl oB ?_))
  obtain ⟨V, hV⟩ : ∃ V, u.alloc (.cells B 33) = V := ⟨_, rfl⟩
  rw [hV]
  have hV0 : Bl w V [(F, 24), (A, 31), (X, 33), (zeroC, 33), (zeroP, 37), (zeroP, 37)] := by rw [← hV]; exact (HS.out.go k).go (Kept.one _ _)
  have bV : V.heap[u.heap.size]? = some (.cells B 33 (0, 0)) := by rw [← hV]; exact blk_new u _
  have hng : w.heap.size + 6 ≤ u.heap.size := (HS.out.go k).size
  obtain ⟨g, hg⟩ : ∃ g, u.heap.size = g := ⟨_, rfl⟩
  rw [hg] at bV hng ⊢
  have h12 : V.cell? ⟨w.heap.size + 1, 12, none⟩ = some (.int .i64 o.hp) := (hV0.cell 1 12 rfl).trans c12
  have h13 : V.cell? ⟨w.heap.size + 1, 13, none⟩ = some (.int .i64 o.dl) := (hV0.cell 1 13 rfl).trans c13
  have l4 : V.cell? ⟨w.heap.size, 4, none⟩ = some (.int .i64 cf.least) := (hV0.cell 0 4 rfl).trans d4
  have l5 : V.cell? ⟨w.heap.size, 5, none⟩ = some (.int .i64 cf.hops) := (hV0.cell 0 5 rfl).trans d5
  have HV := Lib.hid (And.intro hV0 bV)
  clear hV hg hV0 bV k C1
  go_upto_region 6 with (first
    | (refine load_w 33 (.tmp 13) rfl g rfl rfl B 13 HV.out.2 Tryd.underlying33 sB info_rcl ?_)
    | (refine load_w 33 (.tmp 8) rfl (w.heap.size + 1 + 1) rfl rfl X 13 (HV.out.1.blk 2 rfl) Tryd.underlying33 sX info_rcl ?_))
  clear h12 h13 l4 l5
  have hT : Stab (Tr w X (Pk.none).arr B g) := stab_and blk_stab (stab_and blk_stab blk_stab)
  have hST := (⟨stab_and bl_stab blk_stab, fun u h => ⟨h.1.blk 2 rfl, h.1.blk 5 rfl, h.2⟩⟩ : Stab (fun u => Bl w u [(F, 24), (A, 31), (X, 33), (zeroC, 33), (zeroP, 37), ((Pk.none).arr, 37)] ∧ u.heap[g]? = some (.cells B 33 (0, 0))) ∧ ∀ u, (fun u => Bl w u [(F, 24), (A, 31), (X, 33), (zeroC, 33), (zeroP, 37), ((Pk.none).arr, 37)] ∧ u.heap[g]? = some (.cells B 33 (0, 0))) u → Tr w X (Pk.none).arr B g u)
  refine AvT.region (Tr w X (Pk.none).arr B g) (fun u => Bl w u [(F, 24), (A, 31), (X, 33), (zeroC, 33), (zeroP, 37), ((Pk.none).arr, 37)] ∧ u.heap[g]? = some (.cells B 33 (0, 0))) (by kernel_rfl) (hST.1 _ _ (⟨HV.out.1, HV.out.2⟩) (Kept.refl _).drew) ?_
  refine AvT.take 0 (some 28) rfl rfl (by kernel_rfl) (by kernel_rfl) (by kernel_rfl) (fun _ _ _ h => h) hST (Au.yq_load 33 (.tmp 8) rfl _ rfl (by rfl) (fun u hu => load_rcl hu.1 sX)) ?_
  simp only [Act.put, List.setIfInBounds_toArray, List.set_cons_zero, List.set_cons_succ]
  refine AvT.take 1 (some 29) rfl rfl (by kernel_rfl) (by kernel_rfl) (by kernel_rfl) (fun _ _ _ h => h) hST (Au.yq_call 39 _ (by rfl) (fun u => by go_simp) (fun u hu => CE.out u)) ?_
  simp only [Act.put, List.setIfInBounds_toArray, List.set_cons_zero, List.set_cons_succ]
  refine AvT.take 2 (some 30) rfl rfl (by kernel_rfl) (by kernel_rfl) (by kernel_rfl) (fun _ _ _ h => h) hST (Au.yq_load 37 (.tmp 12) rfl _ rfl (by rfl) (fun u hu => load_pk hu.2.1 rfl)) ?_
  simp only [Act.put, List.setIfInBounds_toArray, List.set_cons_zero, List.set_cons_succ]
  refine AvT.step 3 rfl (by kernel_rfl) (fun v hv K hK => ?_)
  rw [if_pos (by rfl)]
  refine wp_store_row 33 (.tmp 10) (.tmp 29) rfl (w.heap.size + 1 + 1 + 1) E rfl rfl 33 zeroC (hv.1.blk 3 rfl) (by rw [sE]; exact info_rcl) (by rw [sE]; rfl) oE ?_
  refine hK.out (fun u => Bl w u [(F, 24), (A, 31), (X, 33), (E, 33), (zeroP, 37), ((Pk.none).arr, 37)] ∧ u.heap[g]? = some (.cells B 33 (0, 0))) _ _ ⟨hv.1.row 3 rfl E, other_row hv.2 (by omega)⟩ (stab_and bl_stab blk_stab) (fun u h => ⟨h.1.blk 2 rfl, h.1.blk 5 rfl, h.2⟩) ?_
  clear hK K hv hST
  have hST := (⟨stab_and bl_stab blk_stab, fun u h => ⟨h.1.blk 2 rfl, h.1.blk 5 rfl, h.2⟩⟩ : Stab (fun u => Bl w u [(F, 24), (A, 31), (X, 33), (E, 33), (zeroP, 37), ((Pk.none).arr, 37)] ∧ u.heap[g]? = some (.cells B 33 (0, 0))) ∧ ∀ u, (fun u => Bl w u [(F, 24), (A, 31), (X, 33), (E, 33), (zeroP, 37), ((Pk.none).arr, 37)] ∧ u.heap[g]? = some (.cells B 33 (0, 0))) u → Tr w X (Pk.none).arr B g u)
  refine AvT.step 4 rfl (by kernel_rfl) (fun v hv K hK => ?_)
  rw [if_pos (by rfl)]
  refine wp_store_row 37 (.tmp 11) (.tmp 30) rfl (w.heap.size + 1 + 1 + 1 + 1) (Pk.none).arr rfl rfl 37 zeroP (hv.1.blk 4 rfl) info_pk rfl (pk_one _) ?_
  refine hK.out (fun u => Bl w u [(F, 24), (A, 31), (X, 33), (E, 33), ((Pk.none).arr, 37), ((Pk.none).arr, 37)] ∧ u.heap[g]? = some (.cells B 33 (0, 0))) _ _ ⟨hv.1.row 4 rfl (Pk.none).arr, other_row hv.2 (by omega)⟩ (stab_and bl_stab blk_stab) (fun u h => ⟨h.1.blk 2 rfl, h.1.blk 5 rfl, h.2⟩) ?_
  clear hK K hv hST
  refine AvT.done (by kernel_rfl) (fun u8 hz => ?_)
  go_wp2_with fail
  exact bodyPost_ret (results_row_row rfl _ _ (w.heap.size + 3) (w.heap.size + 4) 33 37 _ _ (0, 0) (0, 0) _ _ rfl (hz.1.blk 3 rfl) Tryd.underlying33 rfl (by rw [sE]; exact info_rcl) rfl (hz.1.blk 4 rfl) Tryd.underlying37 rfl info_pk) rfl ⟨rfl, hz.1.kept⟩

set_option maxRecDepth 100000 in
set_option maxHeartbeats 4000000 in
theorem rsend_late (cf : Cf) (me : Int) (o : Ow) (x : Cl) (now : Int) (q : Option Addr) (N c : Nat) (w : World) (ha : Wd x.att) (h : (x.st = 0 ∨ x.st = 2) ∧ x.att < 5) (h2 : ¬ cf.hops ≤ o.hp) (h4 : Bu.enough o.dl now cf.least = false) :
    Calls Tryd.prog 12 #[.agg cf.arr, .int .i64 me, .agg (o.arr q N c), .agg x.arr, .int .i64 now] w fun e w' => e = .returned (.tuple #[.agg (snd cf me o x now).1.arr, .agg (snd cf me o x now).2.arr]) ∧ Kept w w' := by
  obtain ⟨F, hF⟩ : ∃ F, cf.arr = F := ⟨_, rfl⟩
  obtain ⟨A, hA⟩ : ∃ A, o.arr q N c = A := ⟨_, rfl⟩
  obtain ⟨X, hX⟩ : ∃ X, x.arr = X := ⟨_, rfl⟩
  obtain ⟨b, hb⟩ : ∃ b, beg x now = b := ⟨_, rfl⟩
  obtain ⟨B, hB⟩ : ∃ B, b.arr = B := ⟨_, rfl⟩
  have sX : X.size = 13 := by rw [← hX]; rfl
  have sB : B.size = 13 := by rw [← hB]; rfl
  have oX : X.all (·.oneCell') = true := by rw [← hX]; exact cl_one x
  have oB : B.all (·.oneCell') = true := by rw [← hB]; exact cl_one b
  have x3 : X[3]? = some (.int .i64 x.to) := by rw [← hX]; rfl
  have x4 : X[4]? = some (.int .i64 x.pr) := by rw [← hX]; rfl
  have c0 : A[0]? = some (.int .i64 o.kn) := by rw [← hA]; rfl
  have c1 : A[1]? = some (.int .i64 o.ki) := by rw [← hA]; rfl
  have c2 : A[2]? = some (.int .i64 o.ks) := by rw [← hA]; rfl
  have c3 : A[3]? = some (.int .i64 o.ka) := by rw [← hA]; rfl
  have c4 : A[4]? = some (.int .i64 o.rn) := by rw [← hA]; rfl
  have c5 : A[5]? = some (.int .i64 o.ri) := by rw [← hA]; rfl
  have c6 : A[6]? = some (.int .i64 o.rs) := by rw [← hA]; rfl
  have c12 : A[12]? = some (.int .i64 o.hp) := by rw [← hA]; rfl
  have c13 : A[13]? = some (.int .i64 o.dl) := by rw [← hA]; rfl
  have c14 : A[14]? = some (.int .i64 o.un) := by rw [← hA]; rfl
  have d4 : F[4]? = some (.int .i64 cf.least) := by rw [← hF]; rfl
  have d5 : F[5]? = some (.int .i64 cf.hops) := by rw [← hF]; rfl
  have C1 := Lib.hid (show ∀ u, Calls Tryd.prog 38 #[.agg X, .int .i64 now] u fun e w' => e = .returned (.agg B) ∧ Kept u w' from fun u => by rw [← hX, ← hB, ← hb]; exact rbeg_any x ha now u)
  obtain ⟨W5, hW5⟩ : ∃ W5, ((((w.alloc (.cells F 24)).alloc (.cells A 31)).alloc (.cells X 33)).alloc (.cells zeroC 33)).alloc (.cells zeroP 37) = W5 := ⟨_, rfl⟩
  have HP := Lib.hid (show W5.heap.size = w.heap.size + 1 + 1 + 1 + 1 + 1 by rw [← hW5]; simp)
  obtain ⟨W, hW⟩ : ∃ W, W5.alloc (.cells zeroP 37) = W := ⟨_, rfl⟩
  have hL : Bl w W [(F, 24), (A, 31), (X, 33), (zeroC, 33), (zeroP, 37), (zeroP, 37)] := by rw [← hW, ← hW5]; exact Bl.six w F A X _ _ _ _ _ _ _ _ _
  have HW5 := Lib.hid hW5
  have HW := Lib.hid hW
  clear hW5
  have HS := Lib.hid hL
  rw [hF, hA, hX]
  clear hW hL
  have he : ∀ u, (binOp .eql 33 (.agg B) (.agg X)).run Tryd.prog u = .ok (.bool false) u := fun u => by rw [← hB, ← hX, ← hb]; exact (eq_rcl _ _ u).trans (by rw [beg_same h])
  rw [snd_late h h2 h4]
  have CN := Lib.hid (show ∀ u, Calls Tryd.prog 40 #[.int .i64 o.dl, .int .i64 now, .int .i64 cf.least] u fun e w' => e = .returned (.bool false) ∧ u = w' from fun u => by rw [← h4]; exact Bu.renough_any _ _ _ u)
  obtain ⟨E, hE⟩ : ∃ E, (ends x 4).arr = E := ⟨_, rfl⟩
  have sE : E.size = 13 := by rw [← hE]; rfl
  have oE : E.all (·.oneCell') = true := by rw [← hE]; exact cl_one _
  have CE := Lib.hid (show ∀ u, Calls Tryd.prog 39 #[.agg X, .int .i64 4] u fun e w' => e = .returned (.agg E) ∧ Kept u w' from fun u => by rw [← hX, ← hE]; exact rends_any x 4 u)
  rw [show (ends x 4, Pk.none).1.arr = E from hE]
  clear hE h h4
  clear hF hA hX hb hB
  go_enter Tryd.func12, Tryd.ntmps12
  go_upto_region 1 with fail
  rw [show ((((w.alloc (.cells F 24)).alloc (.cells A 31)).alloc (.cells X 33)).alloc (.cells #[.int .i64 0, .int .i64 0, .int .i64 0, .int .i64 0, .int .i64 0, .int .i64 0, .int .i64 0, .int .i64 0, .int .i64 0, .bool false, .int .i64 0, .int .i64 0, .int .i64 0] 33)).alloc (.cells #[.int .i64 0, .int .i64 0, .int .i64 0, .int .i64 0, .int .i64 0, .int .i64 0, .int .i64 0, .int .i64 0, .int .i64 0, .string ⟨#[]⟩, .int .i64 0, .int .i64 0, .int .i64 0, .int .i64 0, .int .i64 0, .int .i64 0, .int .i64 0, .int .i64 0, .int .i64 0, .int .i64 0, .int .i64 0, .bool false, .int .i64 0] 37) = W5 from HW5.out]
  go_upto_region 2 with (refine store_new rfl 37 (.tmp 12) (.tmp 14) rfl W5.heap.size zeroP rfl rfl W5 _ rfl 23 info_pk rfl rfl (pk_one _) ?_)
  rw [show W5.alloc (.cells zeroP 37) = W from HW.out, HP.out]
  go_upto_region 3 with (first
    | (refine load_w 33 (.tmp 8) rfl (w.heap.size + 1 + 1) rfl rfl X 13 (HS.out.blk 2 rfl) Tryd.underlying33 sX info_rcl ?_)
    | (go_at_call 38; refine (C1.out _).mono ?_; rintro e u ⟨rfl, k⟩)
    | (refine store_new rfl 33 (.tmp 13) (.tmp 17) rfl u.heap.size B rfl rfl u _ rfl 13 info_rcl sB rfl oB ?_))
  obtain ⟨V, hV⟩ : ∃ V, u.alloc (.cells B 33) = V := ⟨_, rfl⟩
  rw [hV]
  have hV0 : Bl w V [(F, 24), (A, 31), (X, 33), (zeroC, 33), (zeroP, 37), (zeroP, 37)] := by rw [← hV]; exact (HS.out.go k).go (Kept.one _ _)
  have bV : V.heap[u.heap.size]? = some (.cells B 33 (0, 0)) := by rw [← hV]; exact blk_new u _
  have hng : w.heap.size + 6 ≤ u.heap.size := (HS.out.go k).size
  obtain ⟨g, hg⟩ : ∃ g, u.heap.size = g := ⟨_, rfl⟩
  rw [hg] at bV hng ⊢
  have h12 : V.cell? ⟨w.heap.size + 1, 12, none⟩ = some (.int .i64 o.hp) := (hV0.cell 1 12 rfl).trans c12
  have h13 : V.cell? ⟨w.heap.size + 1, 13, none⟩ = some (.int .i64 o.dl) := (hV0.cell 1 13 rfl).trans c13
  have l4 : V.cell? ⟨w.heap.size, 4, none⟩ = some (.int .i64 cf.least) := (hV0.cell 0 4 rfl).trans d4
  have l5 : V.cell? ⟨w.heap.size, 5, none⟩ = some (.int .i64 cf.hops) := (hV0.cell 0 5 rfl).trans d5
  have HV := Lib.hid (And.intro hV0 bV)
  clear hV hg hV0 bV k C1
  go_upto_region 8 with (first
    | (refine load_w 33 (.tmp 13) rfl g rfl rfl B 13 HV.out.2 Tryd.underlying33 sB info_rcl ?_)
    | (refine load_w 33 (.tmp 8) rfl (w.heap.size + 1 + 1) rfl rfl X 13 (HV.out.1.blk 2 rfl) Tryd.underlying33 sX info_rcl ?_)
    | (go_at_call 40; refine (CN.out _).mono ?_; rintro e u2 ⟨rfl, rfl⟩))
  clear h12 h13 l4 l5
  have hT : Stab (Tr w X (Pk.none).arr B g) := stab_and blk_stab (stab_and blk_stab blk_stab)
  have hST := (⟨stab_and bl_stab blk_stab, fun u h => ⟨h.1.blk 2 rfl, h.1.blk 5 rfl, h.2⟩⟩ : Stab (fun u => Bl w u [(F, 24), (A, 31), (X, 33), (zeroC, 33), (zeroP, 37), ((Pk.none).arr, 37)] ∧ u.heap[g]? = some (.cells B 33 (0, 0))) ∧ ∀ u, (fun u => Bl w u [(F, 24), (A, 31), (X, 33), (zeroC, 33), (zeroP, 37), ((Pk.none).arr, 37)] ∧ u.heap[g]? = some (.cells B 33 (0, 0))) u → Tr w X (Pk.none).arr B g u)
  refine AvT.region (Tr w X (Pk.none).arr B g) (fun u => Bl w u [(F, 24), (A, 31), (X, 33), (zeroC, 33), (zeroP, 37), ((Pk.none).arr, 37)] ∧ u.heap[g]? = some (.cells B 33 (0, 0))) (by kernel_rfl) (hST.1 _ _ (⟨HV.out.1, HV.out.2⟩) (Kept.refl _).drew) ?_
  refine AvT.take 0 (some 38) rfl rfl (by kernel_rfl) (by kernel_rfl) (by kernel_rfl) (fun _ _ _ h => h) hST (Au.yq_load 33 (.tmp 8) rfl _ rfl (by rfl) (fun u hu => load_rcl hu.1 sX)) ?_
  simp only [Act.put, List.setIfInBounds_toArray, List.set_cons_zero, List.set_cons_succ]
  refine AvT.take 1 (some 39) rfl rfl (by kernel_rfl) (by kernel_rfl) (by kernel_rfl) (fun _ _ _ h => h) hST (Au.yq_call 39 _ (by rfl) (fun u => by go_simp) (fun u hu => CE.out u)) ?_
  simp only [Act.put, List.setIfInBounds_toArray, List.set_cons_zero, List.set_cons_succ]
  refine AvT.take 2 (some 40) rfl rfl (by kernel_rfl) (by kernel_rfl) (by kernel_rfl) (fun _ _ _ h => h) hST (Au.yq_load 37 (.tmp 12) rfl _ rfl (by rfl) (fun u hu => load_pk hu.2.1 rfl)) ?_
  simp only [Act.put, List.setIfInBounds_toArray, List.set_cons_zero, List.set_cons_succ]
  refine AvT.step 3 rfl (by kernel_rfl) (fun v hv K hK => ?_)
  rw [if_pos (by rfl)]
  refine wp_store_row 33 (.tmp 10) (.tmp 39) rfl (w.heap.size + 1 + 1 + 1) E rfl rfl 33 zeroC (hv.1.blk 3 rfl) (by rw [sE]; exact info_rcl) (by rw [sE]; rfl) oE ?_
  refine hK.out (fun u => Bl w u [(F, 24), (A, 31), (X, 33), (E, 33), (zeroP, 37), ((Pk.none).arr, 37)] ∧ u.heap[g]? = some (.cells B 33 (0, 0))) _ _ ⟨hv.1.row 3 rfl E, other_row hv.2 (by omega)⟩ (stab_and bl_stab blk_stab) (fun u h => ⟨h.1.blk 2 rfl, h.1.blk 5 rfl, h.2⟩) ?_
  clear hK K hv hST
  have hST := (⟨stab_and bl_stab blk_stab, fun u h => ⟨h.1.blk 2 rfl, h.1.blk 5 rfl, h.2⟩⟩ : Stab (fun u => Bl w u [(F, 24), (A, 31), (X, 33), (E, 33), (zeroP, 37), ((Pk.none).arr, 37)] ∧ u.heap[g]? = some (.cells B 33 (0, 0))) ∧ ∀ u, (fun u => Bl w u [(F, 24), (A, 31), (X, 33), (E, 33), (zeroP, 37), ((Pk.none).arr, 37)] ∧ u.heap[g]? = some (.cells B 33 (0, 0))) u → Tr w X (Pk.none).arr B g u)
  refine AvT.step 4 rfl (by kernel_rfl) (fun v hv K hK => ?_)
  rw [if_pos (by rfl)]
  refine wp_store_row 37 (.tmp 11) (.tmp 40) rfl (w.heap.size + 1 + 1 + 1 + 1) (Pk.none).arr rfl rfl 37 zeroP (hv.1.blk 4 rfl) info_pk rfl (pk_one _) ?_
  refine hK.out (fun u => Bl w u [(F, 24), (A, 31), (X, 33), (E, 33), ((Pk.none).arr, 37), ((Pk.none).arr, 37)] ∧ u.heap[g]? = some (.cells B 33 (0, 0))) _ _ ⟨hv.1.row 4 rfl (Pk.none).arr, other_row hv.2 (by omega)⟩ (stab_and bl_stab blk_stab) (fun u h => ⟨h.1.blk 2 rfl, h.1.blk 5 rfl, h.2⟩) ?_
  clear hK K hv hST
  refine AvT.done (by kernel_rfl) (fun u8 hz => ?_)
  go_wp2_with fail
  exact bodyPost_ret (results_row_row rfl _ _ (w.heap.size + 3) (w.heap.size + 4) 33 37 _ _ (0, 0) (0, 0) _ _ rfl (hz.1.blk 3 rfl) Tryd.underlying33 rfl (by rw [sE]; exact info_rcl) rfl (hz.1.blk 4 rfl) Tryd.underlying37 rfl info_pk) rfl ⟨rfl, hz.1.kept⟩

set_option maxRecDepth 100000 in
set_option maxHeartbeats 4000000 in
theorem rsend_goes (cf : Cf) (me : Int) (o : Ow) (x : Cl) (now : Int) (q : Option Addr) (N c : Nat) (w : World) (ha : Wd x.att) (h : (x.st = 0 ∨ x.st = 2) ∧ x.att < 5) (h2 : ¬ cf.hops ≤ o.hp) (h3 : Bu.enough o.dl now cf.least = true) :
    Calls Tryd.prog 12 #[.agg cf.arr, .int .i64 me, .agg (o.arr q N c), .agg x.arr, .int .i64 now] w fun e w' => e = .returned (.tuple #[.agg (snd cf me o x now).1.arr, .agg (snd cf me o x now).2.arr]) ∧ Kept w w' := by
  obtain ⟨F, hF⟩ : ∃ F, cf.arr = F := ⟨_, rfl⟩
  obtain ⟨A, hA⟩ : ∃ A, o.arr q N c = A := ⟨_, rfl⟩
  obtain ⟨X, hX⟩ : ∃ X, x.arr = X := ⟨_, rfl⟩
  obtain ⟨b, hb⟩ : ∃ b, beg x now = b := ⟨_, rfl⟩
  obtain ⟨B, hB⟩ : ∃ B, b.arr = B := ⟨_, rfl⟩
  have sX : X.size = 13 := by rw [← hX]; rfl
  have sB : B.size = 13 := by rw [← hB]; rfl
  have oX : X.all (·.oneCell') = true := by rw [← hX]; exact cl_one x
  have oB : B.all (·.oneCell') = true := by rw [← hB]; exact cl_one b
  have x3 : X[3]? = some (.int .i64 x.to) := by rw [← hX]; rfl
  have x4 : X[4]? = some (.int .i64 x.pr) := by rw [← hX]; rfl
  have c0 : A[0]? = some (.int .i64 o.kn) := by rw [← hA]; rfl
  have c1 : A[1]? = some (.int .i64 o.ki) := by rw [← hA]; rfl
  have c2 : A[2]? = some (.int .i64 o.ks) := by rw [← hA]; rfl
  have c3 : A[3]? = some (.int .i64 o.ka) := by rw [← hA]; rfl
  have c4 : A[4]? = some (.int .i64 o.rn) := by rw [← hA]; rfl
  have c5 : A[5]? = some (.int .i64 o.ri) := by rw [← hA]; rfl
  have c6 : A[6]? = some (.int .i64 o.rs) := by rw [← hA]; rfl
  have c12 : A[12]? = some (.int .i64 o.hp) := by rw [← hA]; rfl
  have c13 : A[13]? = some (.int .i64 o.dl) := by rw [← hA]; rfl
  have c14 : A[14]? = some (.int .i64 o.un) := by rw [← hA]; rfl
  have d4 : F[4]? = some (.int .i64 cf.least) := by rw [← hF]; rfl
  have d5 : F[5]? = some (.int .i64 cf.hops) := by rw [← hF]; rfl
  have C1 := Lib.hid (show ∀ u, Calls Tryd.prog 38 #[.agg X, .int .i64 now] u fun e w' => e = .returned (.agg B) ∧ Kept u w' from fun u => by rw [← hX, ← hB, ← hb]; exact rbeg_any x ha now u)
  obtain ⟨W5, hW5⟩ : ∃ W5, ((((w.alloc (.cells F 24)).alloc (.cells A 31)).alloc (.cells X 33)).alloc (.cells zeroC 33)).alloc (.cells zeroP 37) = W5 := ⟨_, rfl⟩
  have HP := Lib.hid (show W5.heap.size = w.heap.size + 1 + 1 + 1 + 1 + 1 by rw [← hW5]; simp)
  obtain ⟨W, hW⟩ : ∃ W, W5.alloc (.cells zeroP 37) = W := ⟨_, rfl⟩
  have hL : Bl w W [(F, 24), (A, 31), (X, 33), (zeroC, 33), (zeroP, 37), (zeroP, 37)] := by rw [← hW, ← hW5]; exact Bl.six w F A X _ _ _ _ _ _ _ _ _
  have HW5 := Lib.hid hW5
  have HW := Lib.hid hW
  clear hW5
  have HS := Lib.hid hL
  rw [hF, hA, hX]
  clear hW hL
  have he : ∀ u, (binOp .eql 33 (.agg B) (.agg X)).run Tryd.prog u = .ok (.bool false) u := fun u => by rw [← hB, ← hX, ← hb]; exact (eq_rcl _ _ u).trans (by rw [beg_same h])
  rw [snd_goes h h2 h3]
  have CN := Lib.hid (show ∀ u, Calls Tryd.prog 40 #[.int .i64 o.dl, .int .i64 now, .int .i64 cf.least] u fun e w' => e = .returned (.bool true) ∧ u = w' from fun u => by rw [← h3]; exact Bu.renough_any _ _ _ u)
  obtain ⟨z1, hz1⟩ : ∃ z, Tk.clamp now = z := ⟨_, rfl⟩
  obtain ⟨z2, hz2⟩ : ∃ z, Tk.clamp o.un = z := ⟨_, rfl⟩
  obtain ⟨s, hs⟩ : ∃ s, hopS o now = s := ⟨_, rfl⟩
  obtain ⟨z3, hz3⟩ : ∃ z, Tk.sub o.dl now = z := ⟨_, rfl⟩
  obtain ⟨z4, hz4⟩ : ∃ z, wrap64 (o.hp + 1) = z := ⟨_, rfl⟩
  have CK := Lib.hid (show ∀ u, Calls Tryd.prog 41 #[.agg B] u fun e w' => e = .returned (.agg #[.int .i64 b.n, .int .i64 b.i, .int .i64 b.s, .int .i64 b.att]) ∧ Kept u w' from fun u => by rw [← hB]; exact rkey_any b u)
  have C2 := Lib.hid (show ∀ u, Calls Tryd.prog 30 #[.int .i64 now] u fun e w' => e = .returned (.int .i64 z1) ∧ u = w' from fun u => by rw [← hz1]; exact Tk.rclamp_any _ u)
  have C3 := Lib.hid (show ∀ u, Calls Tryd.prog 30 #[.int .i64 o.un] u fun e w' => e = .returned (.int .i64 z2) ∧ u = w' from fun u => by rw [← hz2]; exact Tk.rclamp_any _ u)
  have C4 := Lib.hid (show ∀ u, Calls Tryd.prog 29 #[.int .i64 o.dl, .int .i64 now] u fun e w' => e = .returned (.int .i64 z3) ∧ u = w' from fun u => by rw [← hz3]; exact Tk.rsub_any _ _ u)
  have C5 := Lib.hid (show ∀ u, Calls Tryd.prog 42 #[.int .i64 z3] u fun e w' => e = .returned (.string s) ∧ Kept u w' from fun u => by rw [← hz3, ← hs]; exact Bu.rhop_any _ _ u)
  obtain ⟨R, hR⟩ : ∃ R : Pk, ask me o b now (hopS o now) = R := ⟨_, rfl⟩
  have hbt : b.to = x.to ∧ b.pr = x.pr := by rw [← hb, beg_on now h.1 h.2]; exact ⟨rfl, rfl⟩
  have HR : Hid (R = ⟨1, me, x.to, b.n, b.i, b.s, b.att, z4, z1, s, z2, x.pr, o.rn, o.ri, o.rs, o.kn, o.ki, o.ks, o.ka, 0, 0, false, 0⟩) := Lib.hid (by rw [← hR, ← hz1, ← hz2, ← hs, ← hz4]; unfold ask; rw [hbt.1, hbt.2])
  rw [hb, hR, show (b, R).1.arr = B from hB]
  have HZ4 := Lib.hid hz4
  clear hR h h3 hz1 hz2 hs hz3 hz4 hbt
  clear hF hA hX hb hB
  go_enter Tryd.func12, Tryd.ntmps12
  go_upto_region 1 with fail
  rw [show ((((w.alloc (.cells F 24)).alloc (.cells A 31)).alloc (.cells X 33)).alloc (.cells #[.int .i64 0, .int .i64 0, .int .i64 0, .int .i64 0, .int .i64 0, .int .i64 0, .int .i64 0, .int .i64 0, .int .i64 0, .bool false, .int .i64 0, .int .i64 0, .int .i64 0] 33)).alloc (.cells #[.int .i64 0, .int .i64 0, .int .i64 0, .int .i64 0, .int .i64 0, .int .i64 0, .int .i64 0, .int .i64 0, .int .i64 0, .string ⟨#[]⟩, .int .i64 0, .int .i64 0, .int .i64 0, .int .i64 0, .int .i64 0, .int .i64 0, .int .i64 0, .int .i64 0, .int .i64 0, .int .i64 0, .int .i64 0, .bool false, .int .i64 0] 37) = W5 from HW5.out]
  go_upto_region 2 with (refine store_new rfl 37 (.tmp 12) (.tmp 14) rfl W5.heap.size zeroP rfl rfl W5 _ rfl 23 info_pk rfl rfl (pk_one _) ?_)
  rw [show W5.alloc (.cells zeroP 37) = W from HW.out, HP.out]
  go_upto_region 3 with (first
    | (refine load_w 33 (.tmp 8) rfl (w.heap.size + 1 + 1) rfl rfl X 13 (HS.out.blk 2 rfl) Tryd.underlying33 sX info_rcl ?_)
    | (go_at_call 38; refine (C1.out _).mono ?_; rintro e u ⟨rfl, k⟩)
    | (refine store_new rfl 33 (.tmp 13) (.tmp 17) rfl u.heap.size B rfl rfl u _ rfl 13 info_rcl sB rfl oB ?_))
  obtain ⟨V, hV⟩ : ∃ V, u.alloc (.cells B 33) = V := ⟨_, rfl⟩
  rw [hV]
  have hV0 : Bl w V [(F, 24), (A, 31), (X, 33), (zeroC, 33), (zeroP, 37), (zeroP, 37)] := by rw [← hV]; exact (HS.out.go k).go (Kept.one _ _)
  have bV : V.heap[u.heap.size]? = some (.cells B 33 (0, 0)) := by rw [← hV]; exact blk_new u _
  have hng : w.heap.size + 6 ≤ u.heap.size := (HS.out.go k).size
  obtain ⟨g, hg⟩ : ∃ g, u.heap.size = g := ⟨_, rfl⟩
  rw [hg] at bV hng ⊢
  have h12 : V.cell? ⟨w.heap.size + 1, 12, none⟩ = some (.int .i64 o.hp) := (hV0.cell 1 12 rfl).trans c12
  have h13 : V.cell? ⟨w.heap.size + 1, 13, none⟩ = some (.int .i64 o.dl) := (hV0.cell 1 13 rfl).trans c13
  have l4 : V.cell? ⟨w.heap.size, 4, none⟩ = some (.int .i64 cf.least) := (hV0.cell 0 4 rfl).trans d4
  have l5 : V.cell? ⟨w.heap.size, 5, none⟩ = some (.int .i64 cf.hops) := (hV0.cell 0 5 rfl).trans d5
  have HV := Lib.hid (And.intro hV0 bV)
  clear hV hg hV0 bV k C1
  go_upto_region 9 with (first
    | (refine load_w 33 (.tmp 13) rfl g rfl rfl B 13 HV.out.2 Tryd.underlying33 sB info_rcl ?_)
    | (refine load_w 33 (.tmp 8) rfl (w.heap.size + 1 + 1) rfl rfl X 13 (HV.out.1.blk 2 rfl) Tryd.underlying33 sX info_rcl ?_)
    | (go_at_call 40; refine (CN.out _).mono ?_; rintro e u2 ⟨rfl, rfl⟩))
  clear h12 h13 l4 l5
  have hB1 := HV.out.1
  have hG1 := HV.out.2
  obtain ⟨v, hv⟩ : ∃ v, V = v := ⟨_, rfl⟩
  rw [hv] at hB1 hG1 ⊢
  clear hv HV
  have HH := Lib.hid (And.intro hB1 hG1)
  clear hB1 hG1
  have y0 : v.cell? ⟨w.heap.size + 1 + 1 + 1 + 1 + 1, 0, none⟩ = some (.int .i64 0) := HH.out.1.cell 5 0 rfl
  have f0 : v.frozen? ⟨w.heap.size + 1 + 1 + 1 + 1 + 1, 0, none⟩ = false := HH.out.1.free 5 0 rfl
  go_upto_region 10 with fail
  have hB2 : Bl w (v.setCell ⟨w.heap.size + 1 + 1 + 1 + 1 + 1, 0, none⟩ (.int .i64 1)) [(F, 24), (A, 31), (X, 33), (zeroC, 33), (zeroP, 37), ((⟨1, 0, 0, 0, 0, 0, 0, 0, 0, ⟨#[]⟩, 0, 0, 0, 0, 0, 0, 0, 0, 0, 0, 0, false, 0⟩ : Pk).arr, 37)] := (HH.out.1.put 5 0 rfl (.int .i64 1))
  have hG2 : (v.setCell ⟨w.heap.size + 1 + 1 + 1 + 1 + 1, 0, none⟩ (.int .i64 1)).heap[g]? = some (.cells B 33 (0, 0)) := (World.heap_setCell_ne' HH.out.2 (by omega) 0 (.int .i64 1))
  generalize (v.setCell ⟨w.heap.size + 1 + 1 + 1 + 1 + 1, 0, none⟩ (.int .i64 1)) = v' at hB2 hG2 ⊢
  clear y0 f0 HH   
  obtain ⟨v, hv⟩ : ∃ v, v' = v := ⟨_, rfl⟩
  rw [hv] at hB2 hG2 ⊢
  clear hv
  have HH := Lib.hid (And.intro hB2 hG2)
  clear hB2 hG2
  have y1 : v.cell? ⟨w.heap.size + 1 + 1 + 1 + 1 + 1, 1, none⟩ = some (.int .i64 0) := HH.out.1.cell 5 1 rfl
  have f1 : v.frozen? ⟨w.heap.size + 1 + 1 + 1 + 1 + 1, 1, none⟩ = false := HH.out.1.free 5 1 rfl
  go_upto_region 11 with fail
  have hB2 : Bl w (v.setCell ⟨w.heap.size + 1 + 1 + 1 + 1 + 1, 1, none⟩ (.int .i64 me)) [(F, 24), (A, 31), (X, 33), (zeroC, 33), (zeroP, 37), ((⟨1, me, 0, 0, 0, 0, 0, 0, 0, ⟨#[]⟩, 0, 0, 0, 0, 0, 0, 0, 0, 0, 0, 0, false, 0⟩ : Pk).arr, 37)] := (HH.out.1.put 5 1 rfl (.int .i64 me))
  have hG2 : (v.setCell ⟨w.heap.size + 1 + 1 + 1 + 1 + 1, 1, none⟩ (.int .i64 me)).heap[g]? = some (.cells B 33 (0, 0)) := (World.heap_setCell_ne' HH.out.2 (by omega) 1 (.int .i64 me))
  generalize (v.setCell ⟨w.heap.size + 1 + 1 + 1 + 1 + 1, 1, none⟩ (.int .i64 me)) = v' at hB2 hG2 ⊢
  clear y1 f1 HH   
  obtain ⟨v, hv⟩ : ∃ v, v' = v := ⟨_, rfl⟩
  rw [hv] at hB2 hG2 ⊢
  clear hv
  have HH := Lib.hid (And.intro hB2 hG2)
  clear hB2 hG2
  have a3 : v.cell? ⟨w.heap.size + 1 + 1, 3, none⟩ = some (.int .i64 x.to) := (HH.out.1.cell 2 3 rfl).trans x3
  have y2 : v.cell? ⟨w.heap.size + 1 + 1 + 1 + 1 + 1, 2, none⟩ = some (.int .i64 0) := HH.out.1.cell 5 2 rfl
  have f2 : v.frozen? ⟨w.heap.size + 1 + 1 + 1 + 1 + 1, 2, none⟩ = false := HH.out.1.free 5 2 rfl
  go_upto_region 12 with fail
  have hB2 : Bl w (v.setCell ⟨w.heap.size + 1 + 1 + 1 + 1 + 1, 2, none⟩ (.int .i64 x.to)) [(F, 24), (A, 31), (X, 33), (zeroC, 33), (zeroP, 37), ((⟨1, me, x.to, 0, 0, 0, 0, 0, 0, ⟨#[]⟩, 0, 0, 0, 0, 0, 0, 0, 0, 0, 0, 0, false, 0⟩ : Pk).arr, 37)] := (HH.out.1.put 5 2 rfl (.int .i64 x.to))
  have hG2 : (v.setCell ⟨w.heap.size + 1 + 1 + 1 + 1 + 1, 2, none⟩ (.int .i64 x.to)).heap[g]? = some (.cells B 33 (0, 0)) := (World.heap_setCell_ne' HH.out.2 (by omega) 2 (.int .i64 x.to))
  generalize (v.setCell ⟨w.heap.size + 1 + 1 + 1 + 1 + 1, 2, none⟩ (.int .i64 x.to)) = v' at hB2 hG2 ⊢
  clear y2 f2 HH a3  
  obtain ⟨v, hv⟩ : ∃ v, v' = v := ⟨_, rfl⟩
  rw [hv] at hB2 hG2 ⊢
  clear hv
  have HH := Lib.hid (And.intro hB2 hG2)
  clear hB2 hG2
  go_upto_region 13 with (first
    | (refine load_w 33 (.tmp 13) rfl g rfl rfl B 13 HH.out.2 Tryd.underlying33 sB info_rcl ?_)
    | (go_at_call 41; refine (CK.out _).mono ?_; rintro e v1 ⟨rfl, k1⟩; have y3 : v1.cell? ⟨w.heap.size + 1 + 1 + 1 + 1 + 1, 3, none⟩ = some (.int .i64 0) := (HH.out.1.go k1).cell 5 3 rfl; have f3 : v1.frozen? ⟨w.heap.size + 1 + 1 + 1 + 1 + 1, 3, none⟩ = false := (HH.out.1.go k1).free 5 3 rfl; have y4 : v1.cell? ⟨w.heap.size + 1 + 1 + 1 + 1 + 1, 4, none⟩ = some (.int .i64 0) := (HH.out.1.go k1).cell 5 4 rfl; have f4 : v1.frozen? ⟨w.heap.size + 1 + 1 + 1 + 1 + 1, 4, none⟩ = false := (HH.out.1.go k1).free 5 4 rfl; have y5 : v1.cell? ⟨w.heap.size + 1 + 1 + 1 + 1 + 1, 5, none⟩ = some (.int .i64 0) := (HH.out.1.go k1).cell 5 5 rfl; have f5 : v1.frozen? ⟨w.heap.size + 1 + 1 + 1 + 1 + 1, 5, none⟩ = false := (HH.out.1.go k1).free 5 5 rfl; have y6 : v1.cell? ⟨w.heap.size + 1 + 1 + 1 + 1 + 1, 6, none⟩ = some (.int .i64 0) := (HH.out.1.go k1).cell 5 6 rfl; have f6 : v1.frozen? ⟨w.heap.size + 1 + 1 + 1 + 1 + 1, 6, none⟩ = false := (HH.out.1.go k1).free 5 6 rfl))
  have hB2 : Bl w ((((v1.setCell ⟨w.heap.size + 1 + 1 + 1 + 1 + 1, 3, none⟩ (.int .i64 b.n)).setCell ⟨w.heap.size + 1 + 1 + 1 + 1 + 1, 4, none⟩ (.int .i64 b.i)).setCell ⟨w.heap.size + 1 + 1 + 1 + 1 + 1, 5, none⟩ (.int .i64 b.s)).setCell ⟨w.heap.size + 1 + 1 + 1 + 1 + 1, 6, none⟩ (.int .i64 b.att)) [(F, 24), (A, 31), (X, 33), (zeroC, 33), (zeroP, 37), ((⟨1, me, x.to, b.n, b.i, b.s, b.att, 0, 0, ⟨#[]⟩, 0, 0, 0, 0, 0, 0, 0, 0, 0, 0, 0, false, 0⟩ : Pk).arr, 37)] := (((((HH.out.1.go k1).put 5 3 rfl (.int .i64 b.n)).put 5 4 rfl (.int .i64 b.i)).put 5 5 rfl (.int .i64 b.s)).put 5 6 rfl (.int .i64 b.att))
  have hG2 : ((((v1.setCell ⟨w.heap.size + 1 + 1 + 1 + 1 + 1, 3, none⟩ (.int .i64 b.n)).setCell ⟨w.heap.size + 1 + 1 + 1 + 1 + 1, 4, none⟩ (.int .i64 b.i)).setCell ⟨w.heap.size + 1 + 1 + 1 + 1 + 1, 5, none⟩ (.int .i64 b.s)).setCell ⟨w.heap.size + 1 + 1 + 1 + 1 + 1, 6, none⟩ (.int .i64 b.att)).heap[g]? = some (.cells B 33 (0, 0)) := (World.heap_setCell_ne' (World.heap_setCell_ne' (World.heap_setCell_ne' (World.heap_setCell_ne' (kept_at k1 HH.out.2) (by omega) 3 (.int .i64 b.n)) (by omega) 4 (.int .i64 b.i)) (by omega) 5 (.int .i64 b.s)) (by omega) 6 (.int .i64 b.att))
  generalize ((((v1.setCell ⟨w.heap.size + 1 + 1 + 1 + 1 + 1, 3, none⟩ (.int .i64 b.n)).setCell ⟨w.heap.size + 1 + 1 + 1 + 1 + 1, 4, none⟩ (.int .i64 b.i)).setCell ⟨w.heap.size + 1 + 1 + 1 + 1 + 1, 5, none⟩ (.int .i64 b.s)).setCell ⟨w.heap.size + 1 + 1 + 1 + 1 + 1, 6, none⟩ (.int .i64 b.att)) = v' at hB2 hG2 ⊢
  clear y3 f3 y4 f4 y5 f5 y6 f6 HH   k1
  obtain ⟨v, hv⟩ : ∃ v, v' = v := ⟨_, rfl⟩
  rw [hv] at hB2 hG2 ⊢
  clear hv
  have HH := Lib.hid (And.intro hB2 hG2)
  clear hB2 hG2
  have a3 : v.cell? ⟨w.heap.size + 1, 12, none⟩ = some (.int .i64 o.hp) := (HH.out.1.cell 1 12 rfl).trans c12
  have y7 : v.cell? ⟨w.heap.size + 1 + 1 + 1 + 1 + 1, 7, none⟩ = some (.int .i64 0) := HH.out.1.cell 5 7 rfl
  have f7 : v.frozen? ⟨w.heap.size + 1 + 1 + 1 + 1 + 1, 7, none⟩ = false := HH.out.1.free 5 7 rfl
  go_upto_region 14 with fail
  rw [HZ4.out]
  have hB2 : Bl w (v.setCell ⟨w.heap.size + 1 + 1 + 1 + 1 + 1, 7, none⟩ (.int .i64 z4)) [(F, 24), (A, 31), (X, 33), (zeroC, 33), (zeroP, 37), ((⟨1, me, x.to, b.n, b.i, b.s, b.att, z4, 0, ⟨#[]⟩, 0, 0, 0, 0, 0, 0, 0, 0, 0, 0, 0, false, 0⟩ : Pk).arr, 37)] := (HH.out.1.put 5 7 rfl (.int .i64 z4))
  have hG2 : (v.setCell ⟨w.heap.size + 1 + 1 + 1 + 1 + 1, 7, none⟩ (.int .i64 z4)).heap[g]? = some (.cells B 33 (0, 0)) := (World.heap_setCell_ne' HH.out.2 (by omega) 7 (.int .i64 z4))
  generalize (v.setCell ⟨w.heap.size + 1 + 1 + 1 + 1 + 1, 7, none⟩ (.int .i64 z4)) = v' at hB2 hG2 ⊢
  clear y7 f7 HH a3  
  obtain ⟨v, hv⟩ : ∃ v, v' = v := ⟨_, rfl⟩
  rw [hv] at hB2 hG2 ⊢
  clear hv
  have HH := Lib.hid (And.intro hB2 hG2)
  clear hB2 hG2
  have y8 : v.cell? ⟨w.heap.size + 1 + 1 + 1 + 1 + 1, 8, none⟩ = some (.int .i64 0) := HH.out.1.cell 5 8 rfl
  have f8 : v.frozen? ⟨w.heap.size + 1 + 1 + 1 + 1 + 1, 8, none⟩ = false := HH.out.1.free 5 8 rfl
  go_upto_region 15 with (go_at_call 30; refine (C2.out _).mono ?_; rintro e v9 ⟨rfl, rfl⟩)
  have hB2 : Bl w (v.setCell ⟨w.heap.size + 1 + 1 + 1 + 1 + 1, 8, none⟩ (.int .i64 z1)) [(F, 24), (A, 31), (X, 33), (zeroC, 33), (zeroP, 37), ((⟨1, me, x.to, b.n, b.i, b.s, b.att, z4, z1, ⟨#[]⟩, 0, 0, 0, 0, 0, 0, 0, 0, 0, 0, 0, false, 0⟩ : Pk).arr, 37)] := (HH.out.1.put 5 8 rfl (.int .i64 z1))
  have hG2 : (v.setCell ⟨w.heap.size + 1 + 1 + 1 + 1 + 1, 8, none⟩ (.int .i64 z1)).heap[g]? = some (.cells B 33 (0, 0)) := (World.heap_setCell_ne' HH.out.2 (by omega) 8 (.int .i64 z1))
  generalize (v.setCell ⟨w.heap.size + 1 + 1 + 1 + 1 + 1, 8, none⟩ (.int .i64 z1)) = v' at hB2 hG2 ⊢
  clear y8 f8 HH   
  obtain ⟨v, hv⟩ : ∃ v, v' = v := ⟨_, rfl⟩
  rw [hv] at hB2 hG2 ⊢
  clear hv
  have HH := Lib.hid (And.intro hB2 hG2)
  clear hB2 hG2
  have a3 : v.cell? ⟨w.heap.size + 1, 13, none⟩ = some (.int .i64 o.dl) := (HH.out.1.cell 1 13 rfl).trans c13
  go_upto_region 16 with (first
    | (go_at_call 42; refine (C5.out _).mono ?_; rintro e v1 ⟨rfl, k1⟩; have y9 : v1.cell? ⟨w.heap.size + 1 + 1 + 1 + 1 + 1, 9, none⟩ = some (.string ⟨#[]⟩) := (HH.out.1.go k1).cell 5 9 rfl; have f9 : v1.frozen? ⟨w.heap.size + 1 + 1 + 1 + 1 + 1, 9, none⟩ = false := (HH.out.1.go k1).free 5 9 rfl)
    | (go_at_call 29; refine (C4.out _).mono ?_; rintro e v9 ⟨rfl, rfl⟩))
  have hB2 : Bl w (v1.setCell ⟨w.heap.size + 1 + 1 + 1 + 1 + 1, 9, none⟩ (.string s)) [(F, 24), (A, 31), (X, 33), (zeroC, 33), (zeroP, 37), ((⟨1, me, x.to, b.n, b.i, b.s, b.att, z4, z1, s, 0, 0, 0, 0, 0, 0, 0, 0, 0, 0, 0, false, 0⟩ : Pk).arr, 37)] := ((HH.out.1.go k1).put 5 9 rfl (.string s))
  have hG2 : (v1.setCell ⟨w.heap.size + 1 + 1 + 1 + 1 + 1, 9, none⟩ (.string s)).heap[g]? = some (.cells B 33 (0, 0)) := (World.heap_setCell_ne' (kept_at k1 HH.out.2) (by omega) 9 (.string s))
  generalize (v1.setCell ⟨w.heap.size + 1 + 1 + 1 + 1 + 1, 9, none⟩ (.string s)) = v' at hB2 hG2 ⊢
  clear y9 f9 HH a3  k1
  obtain ⟨v, hv⟩ : ∃ v, v' = v := ⟨_, rfl⟩
  rw [hv] at hB2 hG2 ⊢
  clear hv
  have HH := Lib.hid (And.intro hB2 hG2)
  clear hB2 hG2
  have a3 : v.cell? ⟨w.heap.size + 1, 14, none⟩ = some (.int .i64 o.un) := (HH.out.1.cell 1 14 rfl).trans c14
  have y10 : v.cell? ⟨w.heap.size + 1 + 1 + 1 + 1 + 1, 10, none⟩ = some (.int .i64 0) := HH.out.1.cell 5 10 rfl
  have f10 : v.frozen? ⟨w.heap.size + 1 + 1 + 1 + 1 + 1, 10, none⟩ = false := HH.out.1.free 5 10 rfl
  go_upto_region 17 with (go_at_call 30; refine (C3.out _).mono ?_; rintro e v9 ⟨rfl, rfl⟩)
  have hB2 : Bl w (v.setCell ⟨w.heap.size + 1 + 1 + 1 + 1 + 1, 10, none⟩ (.int .i64 z2)) [(F, 24), (A, 31), (X, 33), (zeroC, 33), (zeroP, 37), ((⟨1, me, x.to, b.n, b.i, b.s, b.att, z4, z1, s, z2, 0, 0, 0, 0, 0, 0, 0, 0, 0, 0, false, 0⟩ : Pk).arr, 37)] := (HH.out.1.put 5 10 rfl (.int .i64 z2))
  have hG2 : (v.setCell ⟨w.heap.size + 1 + 1 + 1 + 1 + 1, 10, none⟩ (.int .i64 z2)).heap[g]? = some (.cells B 33 (0, 0)) := (World.heap_setCell_ne' HH.out.2 (by omega) 10 (.int .i64 z2))
  generalize (v.setCell ⟨w.heap.size + 1 + 1 + 1 + 1 + 1, 10, none⟩ (.int .i64 z2)) = v' at hB2 hG2 ⊢
  clear y10 f10 HH a3  
  obtain ⟨v, hv⟩ : ∃ v, v' = v := ⟨_, rfl⟩
  rw [hv] at hB2 hG2 ⊢
  clear hv
  have HH := Lib.hid (And.intro hB2 hG2)
  clear hB2 hG2
  have a3 : v.cell? ⟨w.heap.size + 1 + 1, 4, none⟩ = some (.int .i64 x.pr) := (HH.out.1.cell 2 4 rfl).trans x4
  have y11 : v.cell? ⟨w.heap.size + 1 + 1 + 1 + 1 + 1, 11, none⟩ = some (.int .i64 0) := HH.out.1.cell 5 11 rfl
  have f11 : v.frozen? ⟨w.heap.size + 1 + 1 + 1 + 1 + 1, 11, none⟩ = false := HH.out.1.free 5 11 rfl
  go_upto_region 18 with fail
  have hB2 : Bl w (v.setCell ⟨w.heap.size + 1 + 1 + 1 + 1 + 1, 11, none⟩ (.int .i64 x.pr)) [(F, 24), (A, 31), (X, 33), (zeroC, 33), (zeroP, 37), ((⟨1, me, x.to, b.n, b.i, b.s, b.att, z4, z1, s, z2, x.pr, 0, 0, 0, 0, 0, 0, 0, 0, 0, false, 0⟩ : Pk).arr, 37)] := (HH.out.1.put 5 11 rfl (.int .i64 x.pr))
  have hG2 : (v.setCell ⟨w.heap.size + 1 + 1 + 1 + 1 + 1, 11, none⟩ (.int .i64 x.pr)).heap[g]? = some (.cells B 33 (0, 0)) := (World.heap_setCell_ne' HH.out.2 (by omega) 11 (.int .i64 x.pr))
  generalize (v.setCell ⟨w.heap.size + 1 + 1 + 1 + 1 + 1, 11, none⟩ (.int .i64 x.pr)) = v' at hB2 hG2 ⊢
  clear y11 f11 HH a3  
  obtain ⟨v, hv⟩ : ∃ v, v' = v := ⟨_, rfl⟩
  rw [hv] at hB2 hG2 ⊢
  clear hv
  have HH := Lib.hid (And.intro hB2 hG2)
  clear hB2 hG2
  have li := load_id (u := v) (b := w.heap.size + 1) (o := 4) ((HH.out.1.cell 1 4 rfl).trans c4) ((HH.out.1.cell 1 5 rfl).trans c5) ((HH.out.1.cell 1 6 rfl).trans c6)
  have y12 : v.cell? ⟨w.heap.size + 1 + 1 + 1 + 1 + 1, 12, none⟩ = some (.int .i64 0) := HH.out.1.cell 5 12 rfl
  have f12 : v.frozen? ⟨w.heap.size + 1 + 1 + 1 + 1 + 1, 12, none⟩ = false := HH.out.1.free 5 12 rfl
  have y13 : v.cell? ⟨w.heap.size + 1 + 1 + 1 + 1 + 1, 13, none⟩ = some (.int .i64 0) := HH.out.1.cell 5 13 rfl
  have f13 : v.frozen? ⟨w.heap.size + 1 + 1 + 1 + 1 + 1, 13, none⟩ = false := HH.out.1.free 5 13 rfl
  have y14 : v.cell? ⟨w.heap.size + 1 + 1 + 1 + 1 + 1, 14, none⟩ = some (.int .i64 0) := HH.out.1.cell 5 14 rfl
  have f14 : v.frozen? ⟨w.heap.size + 1 + 1 + 1 + 1 + 1, 14, none⟩ = false := HH.out.1.free 5 14 rfl
  go_upto_region 19 with (refine load_l 26 (.tmp 70) rfl _ rfl rfl _ li ?_)
  have hB2 : Bl w (((v.setCell ⟨w.heap.size + 1 + 1 + 1 + 1 + 1, 12, none⟩ (.int .i64 o.rn)).setCell ⟨w.heap.size + 1 + 1 + 1 + 1 + 1, 13, none⟩ (.int .i64 o.ri)).setCell ⟨w.heap.size + 1 + 1 + 1 + 1 + 1, 14, none⟩ (.int .i64 o.rs)) [(F, 24), (A, 31), (X, 33), (zeroC, 33), (zeroP, 37), ((⟨1, me, x.to, b.n, b.i, b.s, b.att, z4, z1, s, z2, x.pr, o.rn, o.ri, o.rs, 0, 0, 0, 0, 0, 0, false, 0⟩ : Pk).arr, 37)] := (((HH.out.1.put 5 12 rfl (.int .i64 o.rn)).put 5 13 rfl (.int .i64 o.ri)).put 5 14 rfl (.int .i64 o.rs))
  have hG2 : (((v.setCell ⟨w.heap.size + 1 + 1 + 1 + 1 + 1, 12, none⟩ (.int .i64 o.rn)).setCell ⟨w.heap.size + 1 + 1 + 1 + 1 + 1, 13, none⟩ (.int .i64 o.ri)).setCell ⟨w.heap.size + 1 + 1 + 1 + 1 + 1, 14, none⟩ (.int .i64 o.rs)).heap[g]? = some (.cells B 33 (0, 0)) := (World.heap_setCell_ne' (World.heap_setCell_ne' (World.heap_setCell_ne' HH.out.2 (by omega) 12 (.int .i64 o.rn)) (by omega) 13 (.int .i64 o.ri)) (by omega) 14 (.int .i64 o.rs))
  generalize (((v.setCell ⟨w.heap.size + 1 + 1 + 1 + 1 + 1, 12, none⟩ (.int .i64 o.rn)).setCell ⟨w.heap.size + 1 + 1 + 1 + 1 + 1, 13, none⟩ (.int .i64 o.ri)).setCell ⟨w.heap.size + 1 + 1 + 1 + 1 + 1, 14, none⟩ (.int .i64 o.rs)) = v' at hB2 hG2 ⊢
  clear y12 f12 y13 f13 y14 f14 HH  li 
  obtain ⟨v, hv⟩ : ∃ v, v' = v := ⟨_, rfl⟩
  rw [hv] at hB2 hG2 ⊢
  clear hv
  have HH := Lib.hid (And.intro hB2 hG2)
  clear hB2 hG2
  have li := load_key (u := v) (b := w.heap.size + 1) (o := 0) ((HH.out.1.cell 1 0 rfl).trans c0) ((HH.out.1.cell 1 1 rfl).trans c1) ((HH.out.1.cell 1 2 rfl).trans c2) ((HH.out.1.cell 1 3 rfl).trans c3)
  have y15 : v.cell? ⟨w.heap.size + 1 + 1 + 1 + 1 + 1, 15, none⟩ = some (.int .i64 0) := HH.out.1.cell 5 15 rfl
  have f15 : v.frozen? ⟨w.heap.size + 1 + 1 + 1 + 1 + 1, 15, none⟩ = false := HH.out.1.free 5 15 rfl
  have y16 : v.cell? ⟨w.heap.size + 1 + 1 + 1 + 1 + 1, 16, none⟩ = some (.int .i64 0) := HH.out.1.cell 5 16 rfl
  have f16 : v.frozen? ⟨w.heap.size + 1 + 1 + 1 + 1 + 1, 16, none⟩ = false := HH.out.1.free 5 16 rfl
  have y17 : v.cell? ⟨w.heap.size + 1 + 1 + 1 + 1 + 1, 17, none⟩ = some (.int .i64 0) := HH.out.1.cell 5 17 rfl
  have f17 : v.frozen? ⟨w.heap.size + 1 + 1 + 1 + 1 + 1, 17, none⟩ = false := HH.out.1.free 5 17 rfl
  have y18 : v.cell? ⟨w.heap.size + 1 + 1 + 1 + 1 + 1, 18, none⟩ = some (.int .i64 0) := HH.out.1.cell 5 18 rfl
  have f18 : v.frozen? ⟨w.heap.size + 1 + 1 + 1 + 1 + 1, 18, none⟩ = false := HH.out.1.free 5 18 rfl
  go_upto_region 20 with (refine load_l 28 (.tmp 73) rfl _ rfl rfl _ li ?_)
  have hB2 : Bl w ((((v.setCell ⟨w.heap.size + 1 + 1 + 1 + 1 + 1, 15, none⟩ (.int .i64 o.kn)).setCell ⟨w.heap.size + 1 + 1 + 1 + 1 + 1, 16, none⟩ (.int .i64 o.ki)).setCell ⟨w.heap.size + 1 + 1 + 1 + 1 + 1, 17, none⟩ (.int .i64 o.ks)).setCell ⟨w.heap.size + 1 + 1 + 1 + 1 + 1, 18, none⟩ (.int .i64 o.ka)) [(F, 24), (A, 31), (X, 33), (zeroC, 33), (zeroP, 37), ((⟨1, me, x.to, b.n, b.i, b.s, b.att, z4, z1, s, z2, x.pr, o.rn, o.ri, o.rs, o.kn, o.ki, o.ks, o.ka, 0, 0, false, 0⟩ : Pk).arr, 37)] := ((((HH.out.1.put 5 15 rfl (.int .i64 o.kn)).put 5 16 rfl (.int .i64 o.ki)).put 5 17 rfl (.int .i64 o.ks)).put 5 18 rfl (.int .i64 o.ka))
  have hG2 : ((((v.setCell ⟨w.heap.size + 1 + 1 + 1 + 1 + 1, 15, none⟩ (.int .i64 o.kn)).setCell ⟨w.heap.size + 1 + 1 + 1 + 1 + 1, 16, none⟩ (.int .i64 o.ki)).setCell ⟨w.heap.size + 1 + 1 + 1 + 1 + 1, 17, none⟩ (.int .i64 o.ks)).setCell ⟨w.heap.size + 1 + 1 + 1 + 1 + 1, 18, none⟩ (.int .i64 o.ka)).heap[g]? = some (.cells B 33 (0, 0)) := (World.heap_setCell_ne' (World.heap_setCell_ne' (World.heap_setCell_ne' (World.heap_setCell_ne' HH.out.2 (by omega) 15 (.int .i64 o.kn)) (by omega) 16 (.int .i64 o.ki)) (by omega) 17 (.int .i64 o.ks)) (by omega) 18 (.int .i64 o.ka))
  generalize ((((v.setCell ⟨w.heap.size + 1 + 1 + 1 + 1 + 1, 15, none⟩ (.int .i64 o.kn)).setCell ⟨w.heap.size + 1 + 1 + 1 + 1 + 1, 16, none⟩ (.int .i64 o.ki)).setCell ⟨w.heap.size + 1 + 1 + 1 + 1 + 1, 17, none⟩ (.int .i64 o.ks)).setCell ⟨w.heap.size + 1 + 1 + 1 + 1 + 1, 18, none⟩ (.int .i64 o.ka)) = v' at hB2 hG2 ⊢
  clear y15 f15 y16 f16 y17 f17 y18 f18 HH  li 
  obtain ⟨v, hv⟩ : ∃ v, v' = v := ⟨_, rfl⟩
  rw [hv] at hB2 hG2 ⊢
  clear hv
  have HH := Lib.hid (And.intro hB2 hG2)
  clear hB2 hG2
  rw [← HR.out] at HH
  have hT : Stab (Tr w X (R).arr B g) := stab_and blk_stab (stab_and blk_stab blk_stab)
  have hST := (⟨stab_and bl_stab blk_stab, fun u h => ⟨h.1.blk 2 rfl, h.1.blk 5 rfl, h.2⟩⟩ : Stab (fun u => Bl w u [(F, 24), (A, 31), (X, 33), (zeroC, 33), (zeroP, 37), ((R).arr, 37)] ∧ u.heap[g]? = some (.cells B 33 (0, 0))) ∧ ∀ u, (fun u => Bl w u [(F, 24), (A, 31), (X, 33), (zeroC, 33), (zeroP, 37), ((R).arr, 37)] ∧ u.heap[g]? = some (.cells B 33 (0, 0))) u → Tr w X (R).arr B g u)
  refine AvT.region (Tr w X (R).arr B g) (fun u => Bl w u [(F, 24), (A, 31), (X, 33), (zeroC, 33), (zeroP, 37), ((R).arr, 37)] ∧ u.heap[g]? = some (.cells B 33 (0, 0))) (by kernel_rfl) (hST.1 _ _ (⟨HH.out.1, HH.out.2⟩) (Kept.refl _).drew) ?_
  refine AvT.take 0 (some 76) rfl rfl (by kernel_rfl) (by kernel_rfl) (by kernel_rfl) (fun _ _ _ h => h) hST (Au.yq_load 33 (.tmp 13) rfl _ rfl (by rfl) (fun u hu => load_rcl hu.2.2 sB)) ?_
  simp only [Act.put, List.setIfInBounds_toArray, List.set_cons_zero, List.set_cons_succ]
  refine AvT.take 1 (some 77) rfl rfl (by kernel_rfl) (by kernel_rfl) (by kernel_rfl) (fun _ _ _ h => h) hST (Au.yq_load 37 (.tmp 12) rfl _ rfl (by rfl) (fun u hu => load_pk hu.2.1 rfl)) ?_
  simp only [Act.put, List.setIfInBounds_toArray, List.set_cons_zero, List.set_cons_succ]
  refine AvT.step 2 rfl (by kernel_rfl) (fun v hv K hK => ?_)
  rw [if_pos (by rfl)]
  refine wp_store_row 33 (.tmp 10) (.tmp 76) rfl (w.heap.size + 1 + 1 + 1) B rfl rfl 33 zeroC (hv.1.blk 3 rfl) (by rw [sB]; exact info_rcl) (by rw [sB]; rfl) oB ?_
  refine hK.out (fun u => Bl w u [(F, 24), (A, 31), (X, 33), (B, 33), (zeroP, 37), ((R).arr, 37)] ∧ u.heap[g]? = some (.cells B 33 (0, 0))) _ _ ⟨hv.1.row 3 rfl B, other_row hv.2 (by omega)⟩ (stab_and bl_stab blk_stab) (fun u h => ⟨h.1.blk 2 rfl, h.1.blk 5 rfl, h.2⟩) ?_
  clear hK K hv hST
  have hST := (⟨stab_and bl_stab blk_stab, fun u h => ⟨h.1.blk 2 rfl, h.1.blk 5 rfl, h.2⟩⟩ : Stab (fun u => Bl w u [(F, 24), (A, 31), (X, 33), (B, 33), (zeroP, 37), ((R).arr, 37)] ∧ u.heap[g]? = some (.cells B 33 (0, 0))) ∧ ∀ u, (fun u => Bl w u [(F, 24), (A, 31), (X, 33), (B, 33), (zeroP, 37), ((R).arr, 37)] ∧ u.heap[g]? = some (.cells B 33 (0, 0))) u → Tr w X (R).arr B g u)
  refine AvT.step 3 rfl (by kernel_rfl) (fun v hv K hK => ?_)
  rw [if_pos (by rfl)]
  refine wp_store_row 37 (.tmp 11) (.tmp 77) rfl (w.heap.size + 1 + 1 + 1 + 1) (R).arr rfl rfl 37 zeroP (hv.1.blk 4 rfl) info_pk rfl (pk_one _) ?_
  refine hK.out (fun u => Bl w u [(F, 24), (A, 31), (X, 33), (B, 33), ((R).arr, 37), ((R).arr, 37)] ∧ u.heap[g]? = some (.cells B 33 (0, 0))) _ _ ⟨hv.1.row 4 rfl (R).arr, other_row hv.2 (by omega)⟩ (stab_and bl_stab blk_stab) (fun u h => ⟨h.1.blk 2 rfl, h.1.blk 5 rfl, h.2⟩) ?_
  clear hK K hv hST
  refine AvT.done (by kernel_rfl) (fun u8 hz => ?_)
  go_wp2_with fail
  exact bodyPost_ret (results_row_row rfl _ _ (w.heap.size + 3) (w.heap.size + 4) 33 37 _ _ (0, 0) (0, 0) _ _ rfl (hz.1.blk 3 rfl) Tryd.underlying33 rfl (by rw [sB]; exact info_rcl) rfl (hz.1.blk 4 rfl) Tryd.underlying37 rfl info_pk) rfl ⟨rfl, hz.1.kept⟩

set_option maxRecDepth 100000 in
set_option maxHeartbeats 4000000 in
theorem rsend_idle (cf : Cf) (me : Int) (o : Ow) (x : Cl) (now : Int) (q : Option Addr) (N c : Nat) (w : World) (ha : Wd x.att) (h : ¬ ((x.st = 0 ∨ x.st = 2) ∧ x.att < 5)) :
    Calls Tryd.prog 12 #[.agg cf.arr, .int .i64 me, .agg (o.arr q N c), .agg x.arr, .int .i64 now] w fun e w' => e = .returned (.tuple #[.agg (snd cf me o x now).1.arr, .agg (snd cf me o x now).2.arr]) ∧ Kept w w' := by
  obtain ⟨F, hF⟩ : ∃ F, cf.arr = F := ⟨_, rfl⟩
  obtain ⟨A, hA⟩ : ∃ A, o.arr q N c = A := ⟨_, rfl⟩
  obtain ⟨X, hX⟩ : ∃ X, x.arr = X := ⟨_, rfl⟩
  obtain ⟨b, hb⟩ : ∃ b, beg x now = b := ⟨_, rfl⟩
  obtain ⟨B, hB⟩ : ∃ B, b.arr = B := ⟨_, rfl⟩
  have sX : X.size = 13 := by rw [← hX]; rfl
  have sB : B.size = 13 := by rw [← hB]; rfl
  have oX : X.all (·.oneCell') = true := by rw [← hX]; exact cl_one x
  have oB : B.all (·.oneCell') = true := by rw [← hB]; exact cl_one b
  have x3 : X[3]? = some (.int .i64 x.to) := by rw [← hX]; rfl
  have x4 : X[4]? = some (.int .i64 x.pr) := by rw [← hX]; rfl
  have c0 : A[0]? = some (.int .i64 o.kn) := by rw [← hA]; rfl
  have c1 : A[1]? = some (.int .i64 o.ki) := by rw [← hA]; rfl
  have c2 : A[2]? = some (.int .i64 o.ks) := by rw [← hA]; rfl
  have c3 : A[3]? = some (.int .i64 o.ka) := by rw [← hA]; rfl
  have c4 : A[4]? = some (.int .i64 o.rn) := by rw [← hA]; rfl
  have c5 : A[5]? = some (.int .i64 o.ri) := by rw [← hA]; rfl
  have c6 : A[6]? = some (.int .i64 o.rs) := by rw [← hA]; rfl
  have c12 : A[12]? = some (.int .i64 o.hp) := by rw [← hA]; rfl
  have c13 : A[13]? = some (.int .i64 o.dl) := by rw [← hA]; rfl
  have c14 : A[14]? = some (.int .i64 o.un) := by rw [← hA]; rfl
  have d4 : F[4]? = some (.int .i64 cf.least) := by rw [← hF]; rfl
  have d5 : F[5]? = some (.int .i64 cf.hops) := by rw [← hF]; rfl
  have C1 := Lib.hid (show ∀ u, Calls Tryd.prog 38 #[.agg X, .int .i64 now] u fun e w' => e = .returned (.agg B) ∧ Kept u w' from fun u => by rw [← hX, ← hB, ← hb]; exact rbeg_any x ha now u)
  obtain ⟨W5, hW5⟩ : ∃ W5, ((((w.alloc (.cells F 24)).alloc (.cells A 31)).alloc (.cells X 33)).alloc (.cells zeroC 33)).alloc (.cells zeroP 37) = W5 := ⟨_, rfl⟩
  have HP := Lib.hid (show W5.heap.size = w.heap.size + 1 + 1 + 1 + 1 + 1 by rw [← hW5]; simp)
  obtain ⟨W, hW⟩ : ∃ W, W5.alloc (.cells zeroP 37) = W := ⟨_, rfl⟩
  have hL : Bl w W [(F, 24), (A, 31), (X, 33), (zeroC, 33), (zeroP, 37), (zeroP, 37)] := by rw [← hW, ← hW5]; exact Bl.six w F A X _ _ _ _ _ _ _ _ _
  have HW5 := Lib.hid hW5
  have HW := Lib.hid hW
  clear hW5
  have HS := Lib.hid hL
  rw [hF, hA, hX]
  clear hW hL
  have he : ∀ u, (binOp .eql 33 (.agg B) (.agg X)).run Tryd.prog u = .ok (.bool true) u := fun u => by rw [← hB, ← hX, ← hb]; exact (eq_rcl _ _ u).trans (by rw [beg_same_no h])
  rw [snd_idle h, show (x, Pk.none).1.arr = X from hX]
  clear h
  clear hF hA hX hb hB
  go_enter Tryd.func12, Tryd.ntmps12
  go_upto_region 1 with fail
  rw [show ((((w.alloc (.cells F 24)).alloc (.cells A 31)).alloc (.cells X 33)).alloc (.cells #[.int .i64 0, .int .i64 0, .int .i64 0, .int .i64 0, .int .i64 0, .int .i64 0, .int .i64 0, .int .i64 0, .int .i64 0, .bool false, .int .i64 0, .int .i64 0, .int .i64 0] 33)).alloc (.cells #[.int .i64 0, .int .i64 0, .int .i64 0, .int .i64 0, .int .i64 0, .int .i64 0, .int .i64 0, .int .i64 0, .int .i64 0, .string ⟨#[]⟩, .int .i64 0, .int .i64 0, .int .i64 0, .int .i64 0, .int .i64 0, .int .i64 0, .int .i64 0, .int .i64 0, .int .i64 0, .int .i64 0, .int .i64 0, .bool false, .int .i64 0] 37) = W5 from HW5.out]
  go_upto_region 2 with (refine store_new rfl 37 (.tmp 12) (.tmp 14) rfl W5.heap.size zeroP rfl rfl W5 _ rfl 23 info_pk rfl rfl (pk_one _) ?_)
  rw [show W5.alloc (.cells zeroP 37) = W from HW.out, HP.out]
  go_upto_region 3 with (first
    | (refine load_w 33 (.tmp 8) rfl (w.heap.size + 1 + 1) rfl rfl X 13 (HS.out.blk 2 rfl) Tryd.underlying33 sX info_rcl ?_)
    | (go_at_call 38; refine (C1.out _).mono ?_; rintro e u ⟨rfl, k⟩)
    | (refine store_new rfl 33 (.tmp 13) (.tmp 17) rfl u.heap.size B rfl rfl u _ rfl 13 info_rcl sB rfl oB ?_))
  obtain ⟨V, hV⟩ : ∃ V, u.alloc (.cells B 33) = V := ⟨_, rfl⟩
  rw [hV]
  have hV0 : Bl w V [(F, 24), (A, 31), (X, 33), (zeroC, 33), (zeroP, 37), (zeroP, 37)] := by rw [← hV]; exact (HS.out.go k).go (Kept.one _ _)
  have bV : V.heap[u.heap.size]? = some (.cells B 33 (0, 0)) := by rw [← hV]; exact blk_new u _
  have hng : w.heap.size + 6 ≤ u.heap.size := (HS.out.go k).size
  obtain ⟨g, hg⟩ : ∃ g, u.heap.size = g := ⟨_, rfl⟩
  rw [hg] at bV hng ⊢
  have h12 : V.cell? ⟨w.heap.size + 1, 12, none⟩ = some (.int .i64 o.hp) := (hV0.cell 1 12 rfl).trans c12
  have h13 : V.cell? ⟨w.heap.size + 1, 13, none⟩ = some (.int .i64 o.dl) := (hV0.cell 1 13 rfl).trans c13
  have l4 : V.cell? ⟨w.heap.size, 4, none⟩ = some (.int .i64 cf.least) := (hV0.cell 0 4 rfl).trans d4
  have l5 : V.cell? ⟨w.heap.size, 5, none⟩ = some (.int .i64 cf.hops) := (hV0.cell 0 5 rfl).trans d5
  have HV := Lib.hid (And.intro hV0 bV)
  clear hV hg hV0 bV k C1
  go_upto_region 4 with (first
    | (refine load_w 33 (.tmp 13) rfl g rfl rfl B 13 HV.out.2 Tryd.underlying33 sB info_rcl ?_)
    | (refine load_w 33 (.tmp 8) rfl (w.heap.size + 1 + 1) rfl rfl X 13 (HV.out.1.blk 2 rfl) Tryd.underlying33 sX info_rcl ?_))
  clear h12 h13 l4 l5
  have hT : Stab (Tr w X (Pk.none).arr B g) := stab_and blk_stab (stab_and blk_stab blk_stab)
  have hST := (⟨stab_and bl_stab blk_stab, fun u h => ⟨h.1.blk 2 rfl, h.1.blk 5 rfl, h.2⟩⟩ : Stab (fun u => Bl w u [(F, 24), (A, 31), (X, 33), (zeroC, 33), (zeroP, 37), ((Pk.none).arr, 37)] ∧ u.heap[g]? = some (.cells B 33 (0, 0))) ∧ ∀ u, (fun u => Bl w u [(F, 24), (A, 31), (X, 33), (zeroC, 33), (zeroP, 37), ((Pk.none).arr, 37)] ∧ u.heap[g]? = some (.cells B 33 (0, 0))) u → Tr w X (Pk.none).arr B g u)
  refine AvT.region (Tr w X (Pk.none).arr B g) (fun u => Bl w u [(F, 24), (A, 31), (X, 33), (zeroC, 33), (zeroP, 37), ((Pk.none).arr, 37)] ∧ u.heap[g]? = some (.cells B 33 (0, 0))) (by kernel_rfl) (hST.1 _ _ (⟨HV.out.1, HV.out.2⟩) (Kept.refl _).drew) ?_
  refine AvT.take 0 (some 21) rfl rfl (by kernel_rfl) (by kernel_rfl) (by kernel_rfl) (fun _ _ _ h => h) hST (Au.yq_load 33 (.tmp 8) rfl _ rfl (by rfl) (fun u hu => load_rcl hu.1 sX)) ?_
  simp only [Act.put, List.setIfInBounds_toArray, List.set_cons_zero, List.set_cons_succ]
  refine AvT.take 1 (some 22) rfl rfl (by kernel_rfl) (by kernel_rfl) (by kernel_rfl) (fun _ _ _ h => h) hST (Au.yq_load 37 (.tmp 12) rfl _ rfl (by rfl) (fun u hu => load_pk hu.2.1 rfl)) ?_
  simp only [Act.put, List.setIfInBounds_toArray, List.set_cons_zero, List.set_cons_succ]
  refine AvT.step 2 rfl (by kernel_rfl) (fun v hv K hK => ?_)
  rw [if_pos (by rfl)]
  refine wp_store_row 33 (.tmp 10) (.tmp 21) rfl (w.heap.size + 1 + 1 + 1) X rfl rfl 33 zeroC (hv.1.blk 3 rfl) (by rw [sX]; exact info_rcl) (by rw [sX]; rfl) oX ?_
  refine hK.out (fun u => Bl w u [(F, 24), (A, 31), (X, 33), (X, 33), (zeroP, 37), ((Pk.none).arr, 37)] ∧ u.heap[g]? = some (.cells B 33 (0, 0))) _ _ ⟨hv.1.row 3 rfl X, other_row hv.2 (by omega)⟩ (stab_and bl_stab blk_stab) (fun u h => ⟨h.1.blk 2 rfl, h.1.blk 5 rfl, h.2⟩) ?_
  clear hK K hv hST
  have hST := (⟨stab_and bl_stab blk_stab, fun u h => ⟨h.1.blk 2 rfl, h.1.blk 5 rfl, h.2⟩⟩ : Stab (fun u => Bl w u [(F, 24), (A, 31), (X, 33), (X, 33), (zeroP, 37), ((Pk.none).arr, 37)] ∧ u.heap[g]? = some (.cells B 33 (0, 0))) ∧ ∀ u, (fun u => Bl w u [(F, 24), (A, 31), (X, 33), (X, 33), (zeroP, 37), ((Pk.none).arr, 37)] ∧ u.heap[g]? = some (.cells B 33 (0, 0))) u → Tr w X (Pk.none).arr B g u)
  refine AvT.step 3 rfl (by kernel_rfl) (fun v hv K hK => ?_)
  rw [if_pos (by rfl)]
  refine wp_store_row 37 (.tmp 11) (.tmp 22) rfl (w.heap.size + 1 + 1 + 1 + 1) (Pk.none).arr rfl rfl 37 zeroP (hv.1.blk 4 rfl) info_pk rfl (pk_one _) ?_
  refine hK.out (fun u => Bl w u [(F, 24), (A, 31), (X, 33), (X, 33), ((Pk.none).arr, 37), ((Pk.none).arr, 37)] ∧ u.heap[g]? = some (.cells B 33 (0, 0))) _ _ ⟨hv.1.row 4 rfl (Pk.none).arr, other_row hv.2 (by omega)⟩ (stab_and bl_stab blk_stab) (fun u h => ⟨h.1.blk 2 rfl, h.1.blk 5 rfl, h.2⟩) ?_
  clear hK K hv hST
  refine AvT.done (by kernel_rfl) (fun u8 hz => ?_)
  go_wp2_with fail
  exact bodyPost_ret (results_row_row rfl _ _ (w.heap.size + 3) (w.heap.size + 4) 33 37 _ _ (0, 0) (0, 0) _ _ rfl (hz.1.blk 3 rfl) Tryd.underlying33 rfl (by rw [sX]; exact info_rcl) rfl (hz.1.blk 4 rfl) Tryd.underlying37 rfl info_pk) rfl ⟨rfl, hz.1.kept⟩


set_option maxRecDepth 100000 in
set_option maxHeartbeats 4000000 in
theorem rsend_any (cf : Cf) (me : Int) (o : Ow) (x : Cl) (now : Int) (q : Option Addr) (N c : Nat) (w : World) (ha : Wd x.att) :
    Calls Tryd.prog 12 #[.agg cf.arr, .int .i64 me, .agg (o.arr q N c), .agg x.arr, .int .i64 now] w fun e w' => e = .returned (.tuple #[.agg (snd cf me o x now).1.arr, .agg (snd cf me o x now).2.arr]) ∧ Kept w w' := by
  by_cases h : (x.st = 0 ∨ x.st = 2) ∧ x.att < 5
  · by_cases h2 : cf.hops ≤ o.hp
    · exact rsend_far cf me o x now q N c w ha h h2
    by_cases h3 : Bu.enough o.dl now cf.least = true
    · exact rsend_goes cf me o x now q N c w ha h h2 h3
    · exact rsend_late cf me o x now q N c w ha h h2 (by simpa using h3)
  · exact rsend_idle cf me o x now q N c w ha h

end Go.Proofs.YtncdiggejofbbaaDoor.Sn
