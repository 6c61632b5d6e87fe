/- A deed done in both bags: the same answers. -/
import Derived.Test.YtglgkgpmfeamnaaBp
namespace Go.Proofs.Ytglgkgpmfeamnaa.Bg
open Go.RowKit Go.Sort Rv
open St (Kept blk_cell blk_free blk_lt blk_set)
open Wh (Fr Mine)
set_option linter.unusedVariables false

section
variable {W w : World} {B R c : Nat} {s : Sta}
set_option maxHeartbeats 2000000 in
set_option maxRecDepth 100000 in
theorem does_send (h : Tw W B R s s [] w) (hs : Sml c s) (hc : c ≤ 1000) {k : Int} (hk : k = 0 ∨ k = 1 ∨ k = 2) (n a b fr to : Int) {x : ByteArray} (hx : x.size ≤ 200) (q : Bool) :
    Calls Try.prog 8 #[PB B, PB R, .agg #[.int .i64 k, .int .i64 n, .int .i64 a, .int .i64 b, .int .i64 fr, .int .i64 to, .string x, .bool q]] w (done W B R c) := by
  have hE := h.add (dbox k n a b fr to x q)
  obtain ⟨db, hdb⟩ : ∃ b, w.heap.size = b := ⟨_, rfl⟩
  obtain ⟨u, hu⟩ : ∃ u, w.alloc (dbox k n a b fr to x q) = u := ⟨_, rfl⟩
  rw [hdb, hu] at hE
  have HU := Lib.hid hu
  have HDB := Lib.hid hdb
  unfold dbox at HU
  obtain ⟨c0, c1, c2, c3, c4, c5, c6, c7⟩ := hE.cells
  have hD := hE.go (Kept.refl _).drew
  obtain ⟨r, hr⟩ : ∃ r, sendE s = r := ⟨_, rfl⟩
  have hl : s.lost ≤ 1000000 := by have := hs.1; omega
  have CA : ∀ w t, Tw W B R s t [(db, dbox k n a b fr to x q)] w → Calls Try.prog 13 #[PB B, .agg #[.int .i64 fr, .int .i64 to, .string x, .bool q]] w fun e w' => e = .returned (.int .i64 r) ∧ Tw W B R (sendS s ⟨fr, to, x, q⟩) t [(db, dbox k n a b fr to x q)] w' := fun w t h => by rw [← hr]; exact h.sendA hl ⟨fr, to, x, q⟩
  have CR : ∀ w t, Tw W B R t s [(db, dbox k n a b fr to x q)] w → Calls Try.prog 17 #[PB R, .agg #[.int .i64 fr, .int .i64 to, .string x, .bool q]] w fun e w' => e = .returned (.int .i64 r) ∧ Tw W B R t (sendS s ⟨fr, to, x, q⟩) [(db, dbox k n a b fr to x q)] w' := fun w t h => by rw [← hr]; exact h.sendR hl ⟨fr, to, x, q⟩
  have FIN := Lib.hid (hs.send (f := ⟨fr, to, x, q⟩) hx)
  have CC := Lib.hid (And.intro CA CR)
  clear CA CR h hu hdb hE hr hs hc hx hl
  rcases hk with rfl | rfl | rfl
  all_goals
    go_enter Try.func8, Try.ntmps8
    go_wp2_with fail
    rw [HU.out, HDB.out]
    go_wp2_with fail
    go_region_held3 (fun w' => w'.cell? ⟨db, 4, none⟩ = some (.int .i64 fr) ∧ w'.cell? ⟨db, 5, none⟩ = some (.int .i64 to) ∧ w'.cell? ⟨db, 6, none⟩ = some (.string x) ∧ w'.cell? ⟨db, 7, none⟩ = some (.bool q))
      (first | exact (Tw.cells (by assumption)).2.2.2.2)
      (first | (go_at_call 13; refine (CC.out.1 _ _ (by assumption)).mono ?_; rintro e w1 ⟨rfl, hE1⟩) | (go_at_call 17; refine (CC.out.2 _ _ (by assumption)).mono ?_; rintro e w2 ⟨rfl, hE2⟩))
    go_wp2_with fail
    go_ret
    exact ⟨rfl, _, Tw.drop (by assumption), FIN.out⟩

set_option maxHeartbeats 2000000 in
set_option maxRecDepth 100000 in
theorem does_twice (h : Tw W B R s s [] w) (hs : Sml c s) (hc : c ≤ 1000) (n a b fr to : Int) (x : ByteArray) (q : Bool) :
    Calls Try.prog 8 #[PB B, PB R, .agg #[.int .i64 4, .int .i64 n, .int .i64 a, .int .i64 b, .int .i64 fr, .int .i64 to, .string x, .bool q]] w (done W B R c) := by
  have hE := h.add (dbox 4 n a b fr to x q)
  obtain ⟨db, hdb⟩ : ∃ b, w.heap.size = b := ⟨_, rfl⟩
  obtain ⟨u, hu⟩ : ∃ u, w.alloc (dbox 4 n a b fr to x q) = u := ⟨_, rfl⟩
  rw [hdb, hu] at hE
  have HU := Lib.hid hu
  have HDB := Lib.hid hdb
  unfold dbox at HU
  obtain ⟨c0, c1, c2, c3, c4, c5, c6, c7⟩ := hE.cells
  have hD := hE.go (Kept.refl _).drew
  obtain ⟨r, hr⟩ : ∃ r, twiceE s n = r := ⟨_, rfl⟩
  have hl : s.lost ≤ 1000000 := by have := hs.1; omega
  have hz : ∀ f ∈ s.L, f.s.size ≤ 5000 := fun f hf => by have := hs.2 f hf; omega
  have CA : ∀ w t, Tw W B R s t [(db, dbox 4 n a b fr to x q)] w → Calls Try.prog 14 #[PB B, .int .i64 n] w fun e w' => e = .returned (.int .i64 r) ∧ Tw W B R (twiceS s n) t [(db, dbox 4 n a b fr to x q)] w' := fun w t h => by rw [← hr]; exact h.twiceA hl n
  have CR : ∀ w t, Tw W B R t s [(db, dbox 4 n a b fr to x q)] w → Calls Try.prog 19 #[PB R, .int .i64 n] w fun e w' => e = .returned (.int .i64 r) ∧ Tw W B R t (twiceS s n) [(db, dbox 4 n a b fr to x q)] w' := fun w t h => by rw [← hr]; exact h.twiceR hl n
  have FIN := Lib.hid (hs.twice n)
  have CC := Lib.hid (And.intro CA CR)
  clear CA CR h hu hdb hE hr hs hc hl hz
  go_enter Try.func8, Try.ntmps8
  go_wp2_with fail
  rw [HU.out, HDB.out]
  go_wp2_with fail
  go_region_held3 (fun w' => w'.cell? ⟨db, 1, none⟩ = some (.int .i64 n))
    (first | exact (Tw.cells (by assumption)).2.1)
    (first | (go_at_call 14; refine (CC.out.1 _ _ (by assumption)).mono ?_; rintro e w1 ⟨rfl, hE1⟩) | (go_at_call 19; refine (CC.out.2 _ _ (by assumption)).mono ?_; rintro e w2 ⟨rfl, hE2⟩))
  go_wp2_with fail
  go_ret
  exact ⟨rfl, _, Tw.drop (by assumption), FIN.out⟩

set_option maxHeartbeats 2000000 in
set_option maxRecDepth 100000 in
theorem does_hurt (h : Tw W B R s s [] w) (hs : Sml c s) (hc : c ≤ 1000) (n a b fr to : Int) (x : ByteArray) (q : Bool) :
    Calls Try.prog 8 #[PB B, PB R, .agg #[.int .i64 5, .int .i64 n, .int .i64 a, .int .i64 b, .int .i64 fr, .int .i64 to, .string x, .bool q]] w (done W B R c) := by
  have hE := h.add (dbox 5 n a b fr to x q)
  obtain ⟨db, hdb⟩ : ∃ b, w.heap.size = b := ⟨_, rfl⟩
  obtain ⟨u, hu⟩ : ∃ u, w.alloc (dbox 5 n a b fr to x q) = u := ⟨_, rfl⟩
  rw [hdb, hu] at hE
  have HU := Lib.hid hu
  have HDB := Lib.hid hdb
  unfold dbox at HU
  obtain ⟨c0, c1, c2, c3, c4, c5, c6, c7⟩ := hE.cells
  have hD := hE.go (Kept.refl _).drew
  obtain ⟨r, hr⟩ : ∃ r, hurtE s n a b = r := ⟨_, rfl⟩
  have hl : s.lost ≤ 1000000 := by have := hs.1; omega
  have hz : ∀ f ∈ s.L, f.s.size ≤ 5000 := fun f hf => by have := hs.2 f hf; omega
  have CA : ∀ w t, Tw W B R s t [(db, dbox 5 n a b fr to x q)] w → Calls Try.prog 16 #[PB B, .int .i64 n, .int .i64 a, .int .i64 b] w fun e w' => e = .returned (.int .i64 r) ∧ Tw W B R (hurtS s n a b) t [(db, dbox 5 n a b fr to x q)] w' := fun w t h => by rw [← hr]; exact h.hurtA n a b
  have CR : ∀ w t, Tw W B R t s [(db, dbox 5 n a b fr to x q)] w → Calls Try.prog 20 #[PB R, .int .i64 n, .int .i64 a, .int .i64 b] w fun e w' => e = .returned (.int .i64 r) ∧ Tw W B R t (hurtS s n a b) [(db, dbox 5 n a b fr to x q)] w' := fun w t h => by rw [← hr]; exact h.hurtR hz n a b
  have FIN := Lib.hid (hs.hurt n a b)
  have CC := Lib.hid (And.intro CA CR)
  clear CA CR h hu hdb hE hr hs hc hl hz
  go_enter Try.func8, Try.ntmps8
  go_wp2_with fail
  rw [HU.out, HDB.out]
  go_wp2_with fail
  go_region_held3 (fun w' => w'.cell? ⟨db, 1, none⟩ = some (.int .i64 n) ∧ w'.cell? ⟨db, 2, none⟩ = some (.int .i64 a) ∧ w'.cell? ⟨db, 3, none⟩ = some (.int .i64 b))
    (first | exact ⟨(Tw.cells (by assumption)).2.1, (Tw.cells (by assumption)).2.2.1, (Tw.cells (by assumption)).2.2.2.1⟩)
    (first | (go_at_call 16; refine (CC.out.1 _ _ (by assumption)).mono ?_; rintro e w1 ⟨rfl, hE1⟩) | (go_at_call 20; refine (CC.out.2 _ _ (by assumption)).mono ?_; rintro e w2 ⟨rfl, hE2⟩))
  go_wp2_with fail
  go_ret
  exact ⟨rfl, _, Tw.drop (by assumption), FIN.out⟩

set_option maxHeartbeats 2000000 in
set_option maxRecDepth 100000 in
theorem does_take (h : Tw W B R s s [] w) (hs : Sml c s) (n a b fr to : Int) (x : ByteArray) (q : Bool) :
    Calls Try.prog 8 #[PB B, PB R, .agg #[.int .i64 3, .int .i64 n, .int .i64 a, .int .i64 b, .int .i64 fr, .int .i64 to, .string x, .bool q]] w (done W B R c) := by
  have hE := h.add (dbox 3 n a b fr to x q)
  obtain ⟨db, hdb⟩ : ∃ b, w.heap.size = b := ⟨_, rfl⟩
  obtain ⟨u, hu⟩ : ∃ u, w.alloc (dbox 3 n a b fr to x q) = u := ⟨_, rfl⟩
  rw [hdb, hu] at hE
  have HU := Lib.hid hu
  have HDB := Lib.hid hdb
  unfold dbox at HU
  obtain ⟨c0, c1, c2, c3, c4, c5, c6, c7⟩ := hE.cells
  obtain ⟨f, hf⟩ : ∃ f, takeF s n = f := ⟨_, rfl⟩
  obtain ⟨er, her⟩ : ∃ er, lookE s n = er := ⟨_, rfl⟩
  have CA : ∀ w t Pr, Tw W B R s t Pr w → Calls Try.prog 15 #[PB B, .int .i64 n] w fun e w' => e = .returned (.tuple #[.agg #[.int .i64 f.fr, .int .i64 f.to, .string f.s, .bool f.h], .int .i64 er]) ∧ Tw W B R (takeS s n) t Pr w' := fun w t Pr h => by
    rw [← hf, ← her]; exact h.takeA n
  have CR : ∀ w t Pr, Tw W B R t s Pr w → Calls Try.prog 18 #[PB R, .int .i64 n] w fun e w' => e = .returned (.tuple #[.agg #[.int .i64 f.fr, .int .i64 f.to, .string f.s, .bool f.h], .int .i64 er]) ∧ Tw W B R t (takeS s n) Pr w' := fun w t Pr h => by
    rw [← hf, ← her]; exact h.takeR n
  have FIN := Lib.hid (hs.take n)
  have CC := Lib.hid (And.intro CA CR)
  have HE := Lib.hid hE
  clear CA CR h hu hdb hE hf her hs
  go_enter Try.func8, Try.ntmps8
  go_wp2_with fail
  rw [HU.out, HDB.out]
  go_wp2_with fail
  refine (CC.out.1 _ _ _ HE.out).mono ?_
  rintro e w1 ⟨rfl, h1⟩
  have d1 : w1.cell? ⟨db, 1, none⟩ = some (.int .i64 n) := h1.cells.2.1
  have hdb1 := blk_lt (h1.blk (p := (db, dbox 3 n a b fr to x q)) (by simp))
  have hdb1 : db < w1.heap.size := hdb1
  have H1 := Lib.hid (h1.add (.cells #[.int .i64 f.fr, .int .i64 f.to, .string f.s, .bool f.h] PT))
  clear h1 c0 c1 c2 c3 c4 c5 c6 c7
  go_wp2_with fail
  refine (CC.out.2 _ _ _ H1.out).mono ?_
  rintro e w2 ⟨rfl, h2⟩
  have bf : Box w2 w1.heap.size PT f := ⟨h2.blk (p := (w1.heap.size, (.cells #[.int .i64 f.fr, .int .i64 f.to, .string f.s, .bool f.h] PT))) (by simp)⟩
  obtain ⟨z0, z1, z2, z3, _, zl⟩ := bf.cells
  have H2 := Lib.hid (h2.go (Kept.one _ (.cells #[.int .i64 f.fr, .int .i64 f.to, .string f.s, .bool f.h] RT)))
  clear h2 bf d1 hdb1
  go_wp2_with fail
  refine (same_any f _).mono ?_
  rintro e w3 ⟨rfl, hk3⟩
  have H3 := Lib.hid (H2.out.go hk3)
  clear hk3 z0 z1 z2 z3 zl
  go_wp2_with fail
  go_ret
  exact ⟨rfl, _, H3.out.drop, FIN.out⟩

set_option maxHeartbeats 2000000 in
set_option maxRecDepth 100000 in
theorem does_look (h : Tw W B R s s [] w) (hs : Sml c s) (n a b fr to : Int) (x : ByteArray) (q : Bool) :
    Calls Try.prog 8 #[PB B, PB R, .agg #[.int .i64 6, .int .i64 n, .int .i64 a, .int .i64 b, .int .i64 fr, .int .i64 to, .string x, .bool q]] w (done W B R c) := by
  have hE := h.add (dbox 6 n a b fr to x q)
  obtain ⟨db, hdb⟩ : ∃ b, w.heap.size = b := ⟨_, rfl⟩
  obtain ⟨u, hu⟩ : ∃ u, w.alloc (dbox 6 n a b fr to x q) = u := ⟨_, rfl⟩
  rw [hdb, hu] at hE
  have HU := Lib.hid hu
  have HDB := Lib.hid hdb
  unfold dbox at HU
  obtain ⟨c0, c1, c2, c3, c4, c5, c6, c7⟩ := hE.cells
  obtain ⟨f, hf⟩ : ∃ f, takeF s n = f := ⟨_, rfl⟩
  obtain ⟨er, her⟩ : ∃ er, lookE s n = er := ⟨_, rfl⟩
  have CA : ∀ w t Pr, Tw W B R s t Pr w → Calls Try.prog 11 #[PB B, .int .i64 n] w fun e w' => e = .returned (.tuple #[.agg #[.int .i64 f.fr, .int .i64 f.to, .string f.s, .bool f.h], .int .i64 er]) ∧ Tw W B R s t Pr w' := fun w t Pr h => by
    rw [← hf, ← her]; exact (h.lookA n).mono fun _ _ ⟨e, k⟩ => ⟨e, h.go k⟩
  have CR : ∀ w t Pr, Tw W B R t s Pr w → Calls Try.prog 21 #[PB R, .int .i64 n] w fun e w' => e = .returned (.tuple #[.agg #[.int .i64 f.fr, .int .i64 f.to, .string f.s, .bool f.h], .int .i64 er]) ∧ Tw W B R t s Pr w' := fun w t Pr h => by
    rw [← hf, ← her]; exact (h.lookR n).mono fun _ _ ⟨e, k⟩ => ⟨e, h.go k⟩
  have FIN := Lib.hid hs.up
  have CC := Lib.hid (And.intro CA CR)
  have HE := Lib.hid hE
  clear CA CR h hu hdb hE hf her hs
  go_enter Try.func8, Try.ntmps8
  go_wp2_with fail
  rw [HU.out, HDB.out]
  go_wp2_with fail
  refine (CC.out.1 _ _ _ HE.out).mono ?_
  rintro e w1 ⟨rfl, h1⟩
  have d1 : w1.cell? ⟨db, 1, none⟩ = some (.int .i64 n) := h1.cells.2.1
  have hdb1 := blk_lt (h1.blk (p := (db, dbox 6 n a b fr to x q)) (by simp))
  have hdb1 : db < w1.heap.size := hdb1
  have H1 := Lib.hid (h1.add (.cells #[.int .i64 f.fr, .int .i64 f.to, .string f.s, .bool f.h] PT))
  clear h1 c0 c1 c2 c3 c4 c5 c6 c7
  go_wp2_with fail
  refine (CC.out.2 _ _ _ H1.out).mono ?_
  rintro e w2 ⟨rfl, h2⟩
  have bf : Box w2 w1.heap.size PT f := ⟨h2.blk (p := (w1.heap.size, (.cells #[.int .i64 f.fr, .int .i64 f.to, .string f.s, .bool f.h] PT))) (by simp)⟩
  obtain ⟨z0, z1, z2, z3, _, zl⟩ := bf.cells
  have H2 := Lib.hid (h2.go (Kept.one _ (.cells #[.int .i64 f.fr, .int .i64 f.to, .string f.s, .bool f.h] RT)))
  clear h2 bf d1 hdb1
  go_wp2_with fail
  refine (same_any f _).mono ?_
  rintro e w3 ⟨rfl, hk3⟩
  have H3 := Lib.hid (H2.out.go hk3)
  clear hk3 z0 z1 z2 z3 zl
  go_wp2_with fail
  go_ret
  exact ⟨rfl, _, H3.out.drop, FIN.out⟩

set_option maxHeartbeats 2000000 in
set_option maxRecDepth 100000 in
theorem does_other (h : Tw W B R s s [] w) (hs : Sml c s) {k : Int} (h0 : k ≠ 0) (h1 : k ≠ 1) (h2 : k ≠ 2) (h3 : k ≠ 3) (h4 : k ≠ 4) (h5 : k ≠ 5) (h6 : k ≠ 6) (n a b fr to : Int) (x : ByteArray) (q : Bool) :
    Calls Try.prog 8 #[PB B, PB R, .agg #[.int .i64 k, .int .i64 n, .int .i64 a, .int .i64 b, .int .i64 fr, .int .i64 to, .string x, .bool q]] w (done W B R c) := by
  have hE := h.add (dbox k n a b fr to x q)
  obtain ⟨db, hdb⟩ : ∃ b, w.heap.size = b := ⟨_, rfl⟩
  obtain ⟨u, hu⟩ : ∃ u, w.alloc (dbox k n a b fr to x q) = u := ⟨_, rfl⟩
  rw [hdb, hu] at hE
  have HU := Lib.hid hu
  have HDB := Lib.hid hdb
  unfold dbox at HU
  obtain ⟨c0, c1, c2, c3, c4, c5, c6, c7⟩ := hE.cells
  have e0 : (k == 0) = false := by simpa using h0
  have e1 : (k == 1) = false := by simpa using h1
  have e2 : (k == 2) = false := by simpa using h2
  have e3 : (k == 3) = false := by simpa using h3
  have e4 : (k == 4) = false := by simpa using h4
  have e5 : (k == 5) = false := by simpa using h5
  have e6 : (k == 6) = false := by simpa using h6
  have FIN := Lib.hid hs.up
  have HE := Lib.hid hE
  clear h h0 h1 h2 h3 h4 h5 h6 hE hu hdb hs
  go_enter Try.func8, Try.ntmps8
  go_wp2_with fail
  rw [HU.out, HDB.out]
  go_wp2_with fail
  go_ret
  exact ⟨rfl, _, HE.out.drop, FIN.out⟩

theorem does_any (h : Tw W B R s s [] w) (hs : Sml c s) (hc : c ≤ 1000) (k n a b fr to : Int) {x : ByteArray} (hx : x.size ≤ 200) (q : Bool) :
    Calls Try.prog 8 #[PB B, PB R, .agg #[.int .i64 k, .int .i64 n, .int .i64 a, .int .i64 b, .int .i64 fr, .int .i64 to, .string x, .bool q]] w (done W B R c) := by
  by_cases h0 : k = 0 ∨ k = 1 ∨ k = 2
  · exact does_send h hs hc h0 n a b fr to hx q
  · by_cases h3 : k = 3
    · subst h3; exact does_take h hs n a b fr to x q
    · by_cases h4 : k = 4
      · subst h4; exact does_twice h hs hc n a b fr to x q
      · by_cases h5 : k = 5
        · subst h5; exact does_hurt h hs hc n a b fr to x q
        · by_cases h6 : k = 6
          · subst h6; exact does_look h hs n a b fr to x q
          · exact does_other h hs (fun c => h0 (.inl c)) (fun c => h0 (.inr (.inl c))) (fun c => h0 (.inr (.inr c))) h3 h4 h5 h6 n a b fr to x q
end

end Go.Proofs.Ytglgkgpmfeamnaa.Bg
