/- Plain: packets are parsed as they were told, and what is parsed is told as just these bytes. Package packet: its packets' bytes. Package packet: packets parsed. -/
import Derived.Test.YtncdiggejofbbaaGreatDoorPk11
import Derived.Test.YtncdiggejofbbaaGreatDoorBs
import Derived.Test.YtncdiggejofbbaaGreatDoorCr
import Derived.Test.YtncdiggejofbbaaGreatDoorPk3
import Derived.Test.YtncdiggejofbbaaGreatDoorId5
namespace Go.Proofs.YtncdiggejofbbaaGreatDoor.PkM
open Go.RowKit BsM IdM
open Go.Proofs.YtncdiggejofbbaaGreatDoor.Id
set_option linter.unusedVariables false

theorem pw1 : (256 : Nat) ^ (1 : Int).toNat = 256 := by decide
theorem pw2 : (256 : Nat) ^ (2 : Int).toNat = 65536 := by decide
theorem pw3 : (256 : Nat) ^ (3 : Int).toNat = 16777216 := by decide
theorem pw4 : (256 : Nat) ^ (4 : Int).toNat = 4294967296 := by decide
theorem pw7 : (256 : Nat) ^ (7 : Int).toNat = 72057594037927936 := by decide
theorem ok1 {n : Int} (h0 : 0 ≤ n) (h : n < 256) : numOk n 1 = true := numOk_mk (by decide) (by decide) h0 (by rw [pw1]; omega)
theorem ok4 {n : Int} (h0 : 0 ≤ n) (h : n < 4294967296) : numOk n 4 = true := numOk_mk (by decide) (by decide) h0 (by rw [pw4]; omega)
theorem ok7 {n : Int} (h0 : 0 ≤ n) (h : n < 72057594037927936) : numOk n 7 = true := numOk_mk (by decide) (by decide) h0 (by rw [pw7]; omega)

/-! ### what is told is read as it was -/
theorem read_back {n i s : Int} (h : rightB n i s = true) (r : List UInt8) (e : Int) : rdn (codeL n i s ++ r, e) = n ∧ rdi (codeL n i s ++ r, e) = i ∧ rds (codeL n i s ++ r, e) = s ∧ readS (codeL n i s ++ r, e) = (r, e) := by
  obtain ⟨h1, h2, h3⟩ := right_iff.1 h
  have o1 : numOk n 1 = true := ok1 (by omega) (by omega)
  have o2 : numOk i 2 = true := numOk_mk (by decide) (by decide) (by omega) (by rw [pw2]; omega)
  have o3 : numOk s 3 = true := numOk_mk (by decide) (by decide) (by omega) (by rw [pw3]; omega)
  have hx : codeL n i s ++ r = numL n 1 ++ (numL i 2 ++ (numL s 3 ++ r)) := by simp [codeL]
  rw [hx]
  have r1 := num_of o1 (numL i 2 ++ (numL s 3 ++ r)) e
  have r2 := num_of o2 (numL s 3 ++ r) e
  have r3 := num_of o3 r e
  have c1 : s1 (numL n 1 ++ (numL i 2 ++ (numL s 3 ++ r)), e) = (numL i 2 ++ (numL s 3 ++ r), e) := r1.2
  have c2 : s2 (numL n 1 ++ (numL i 2 ++ (numL s 3 ++ r)), e) = (numL s 3 ++ r, e) := by unfold s2; rw [c1]; exact r2.2
  have c3 : s3 (numL n 1 ++ (numL i 2 ++ (numL s 3 ++ r)), e) = (r, e) := by unfold s3; rw [c2]; exact r3.2
  have v1 : vn (numL n 1 ++ (numL i 2 ++ (numL s 3 ++ r)), e) = n := r1.1
  have v2 : vi (numL n 1 ++ (numL i 2 ++ (numL s 3 ++ r)), e) = i := by unfold vi; rw [c1]; exact r2.1
  have v3 : vs (numL n 1 ++ (numL i 2 ++ (numL s 3 ++ r)), e) = s := by unfold vs; rw [c2]; exact r3.1
  have ok : readOk (numL n 1 ++ (numL i 2 ++ (numL s 3 ++ r)), e) = true := by unfold readOk; rw [v1, v2, v3]; exact h
  refine ⟨?_, ?_, ?_, ?_⟩
  · unfold rdn; rw [ok, v1]; rfl
  · unfold rdi; rw [ok, v2]; rfl
  · unfold rds; rw [ok, v3]; rfl
  · rw [(readV_yes ok).2, c3]
theorem key_back {n i s a : Int} (h : keyB n i s a = true) (r : List UInt8) (e : Int) :
    kvn (keyCodeL n i s a ++ r, e) = n ∧ kvi (keyCodeL n i s a ++ r, e) = i ∧ kvs (keyCodeL n i s a ++ r, e) = s ∧ kva (keyCodeL n i s a ++ r, e) = a ∧ rkS (keyCodeL n i s a ++ r, e) = (r, e) := by
  obtain ⟨hr, ha⟩ := key_iff.1 h
  have o4 : numOk a 1 = true := ok1 (by omega) (by omega)
  have hx : keyCodeL n i s a ++ r = codeL n i s ++ (numL a 1 ++ r) := by simp [keyCodeL]
  rw [hx]
  obtain ⟨w1, w2, w3, cs⟩ := read_back hr (numL a 1 ++ r) e
  have r4 := num_of o4 r e
  have va : rda (codeL n i s ++ (numL a 1 ++ r), e) = a := by unfold rda; rw [cs]; exact r4.1
  have th : there (codeL n i s ++ (numL a 1 ++ r), e) = true := by
    unfold there; rw [cs]; have := num_len o4; simp only [decide_eq_true_eq, List.length_append]; omega
  have rk : rkOk (codeL n i s ++ (numL a 1 ++ r), e) = true := by unfold rkOk; rw [th, w1, w2, w3, va, h]; rfl
  refine ⟨?_, ?_, ?_, ?_, ?_⟩
  · unfold kvn; rw [rk, w1]; rfl
  · unfold kvi; rw [rk, w2]; rfl
  · unfold kvs; rw [rk, w3]; rfl
  · unfold kva; rw [rk, va]; rfl
  · rw [(rk_yes rk).2, cs]; exact r4.2
theorem head_iff {p : Pk} : headB p = true ↔ (0 ≤ p.fr ∧ p.fr ≤ 63) ∧ (0 ≤ p.to ∧ p.to ≤ 63) ∧ keyB p.kn p.ki p.ks p.ka = true ∧ 1 ≤ p.ka := by
  simp [headB, nodeB]
theorem head_back {p : Pk} (h : headB p = true) (hk : 0 ≤ p.kind ∧ p.kind < 256) (r : List UInt8) (e : Int) :
    headP (headL p ++ r, e) = { Pk.none with kind := p.kind, fr := p.fr, to := p.to, kn := p.kn, ki := p.ki, ks := p.ks, ka := p.ka } ∧ headS (headL p ++ r, e) = (r, e) := by
  obtain ⟨h1, h2, h3, h4⟩ := head_iff.1 h
  have hx : headL p ++ r = numL p.kind 1 ++ (numL p.fr 1 ++ (numL p.to 1 ++ (keyCodeL p.kn p.ki p.ks p.ka ++ r))) := by simp [headL]
  rw [hx]
  have r1 := num_of (ok1 hk.1 hk.2) (numL p.fr 1 ++ (numL p.to 1 ++ (keyCodeL p.kn p.ki p.ks p.ka ++ r))) e
  have r2 := num_of (ok1 (n := p.fr) (by omega) (by omega)) (numL p.to 1 ++ (keyCodeL p.kn p.ki p.ks p.ka ++ r)) e
  have r3 := num_of (ok1 (n := p.to) (by omega) (by omega)) (keyCodeL p.kn p.ki p.ks p.ka ++ r) e
  obtain ⟨k1, k2, k3, k4, k5⟩ := key_back h3 r e
  have d1 : a1 (numL p.kind 1 ++ (numL p.fr 1 ++ (numL p.to 1 ++ (keyCodeL p.kn p.ki p.ks p.ka ++ r))), e) = _ := r1.2
  have d2 : a2 (numL p.kind 1 ++ (numL p.fr 1 ++ (numL p.to 1 ++ (keyCodeL p.kn p.ki p.ks p.ka ++ r))), e) = (numL p.to 1 ++ (keyCodeL p.kn p.ki p.ks p.ka ++ r), e) := by unfold a2; rw [d1]; exact r2.2
  have d3 : a3 (numL p.kind 1 ++ (numL p.fr 1 ++ (numL p.to 1 ++ (keyCodeL p.kn p.ki p.ks p.ka ++ r))), e) = (keyCodeL p.kn p.ki p.ks p.ka ++ r, e) := by unfold a3; rw [d2]; exact r3.2
  constructor
  · unfold headP; rw [d1, d2, d3, r1.1, r2.1, r3.1, k1, k2, k3, k4]
  · unfold headS; rw [d3, k5]
theorem time_iff {t : Int} : timeB t = true ↔ 0 ≤ t ∧ t ≤ 1125899906842624 := by simp [timeB]
theorem call_back {p q : Pk} (h : callB p = true) (h60 : p.tm.data.toList.length ≤ 255) :
    callP q (callL p, 0) = { q with hop := p.hop, stamp := p.stamp, tm := p.tm, til := p.til, prog := p.prog, rn := p.rn, ri := p.ri, rs := p.rs, pn := p.pn, pi := p.pi, ps := p.ps, pa := p.pa } ∧ callS (callL p, 0) = ([], 0) := by
  simp only [callB, Bool.and_eq_true, decide_eq_true_eq, time_iff] at h
  obtain ⟨hd, h1, h2, h3, h4, h5, h6⟩ := h
  have hx : callL p = numL p.hop 1 ++ (numL p.stamp 7 ++ (textL p.tm.data.toList ++ (numL p.til 7 ++ (numL p.prog 1 ++ (codeL p.rn p.ri p.rs ++ (keyCodeL p.pn p.pi p.ps p.pa ++ [])))))) := by simp [callL]
  rw [hx]
  have r1 := num_of (ok1 (n := p.hop) (by omega) (by omega)) (numL p.stamp 7 ++ (textL p.tm.data.toList ++ (numL p.til 7 ++ (numL p.prog 1 ++ (codeL p.rn p.ri p.rs ++ (keyCodeL p.pn p.pi p.ps p.pa ++ [])))))) 0
  have r2 := num_of (ok7 (n := p.stamp) (by omega) (by omega)) (textL p.tm.data.toList ++ (numL p.til 7 ++ (numL p.prog 1 ++ (codeL p.rn p.ri p.rs ++ (keyCodeL p.pn p.pi p.ps p.pa ++ []))))) 0
  have r3 := text_of h60 (numL p.til 7 ++ (numL p.prog 1 ++ (codeL p.rn p.ri p.rs ++ (keyCodeL p.pn p.pi p.ps p.pa ++ [])))) 0
  have r4 := num_of (ok7 (n := p.til) (by omega) (by omega)) (numL p.prog 1 ++ (codeL p.rn p.ri p.rs ++ (keyCodeL p.pn p.pi p.ps p.pa ++ []))) 0
  have r5 := num_of (ok1 (n := p.prog) (by omega) (by omega)) (codeL p.rn p.ri p.rs ++ (keyCodeL p.pn p.pi p.ps p.pa ++ [])) 0
  obtain ⟨x1, x2, x3, x4⟩ := read_back h5 (keyCodeL p.pn p.pi p.ps p.pa ++ []) 0
  obtain ⟨k1, k2, k3, k4, k5⟩ := key_back h6 [] 0
  generalize hL : numL p.hop 1 ++ (numL p.stamp 7 ++ (textL p.tm.data.toList ++ (numL p.til 7 ++ (numL p.prog 1 ++ (codeL p.rn p.ri p.rs ++ (keyCodeL p.pn p.pi p.ps p.pa ++ [])))))) = L at r1 ⊢
  have d1 : c1 (L, 0) = _ := r1.2
  have d2 : c2 (L, 0) = _ := (congrArg (fun x => numS x 7) d1).trans r2.2
  have d3 : c3 (L, 0) = _ := (congrArg textS d2).trans r3.2
  have d4 : c4 (L, 0) = _ := (congrArg (fun x => numS x 7) d3).trans r4.2
  have d5 : c5 (L, 0) = _ := (congrArg (fun x => numS x 1) d4).trans r5.2
  have d6 : c6 (L, 0) = _ := (congrArg readS d5).trans x4
  constructor
  · unfold callP; rw [d1, d2, d3, d4, d5, d6, r1.1, r2.1, r3.1, r4.1, r5.1, x1, x2, x3, k1, k2, k3, k4]
  · unfold callS; rw [d6, k5]
theorem reply_back {p q : Pk} (h : replyB p = true) : replyP q (replyL p, 0) = { q with code := p.code, value := p.value, more := p.more } ∧ flagS (e2 (replyL p, 0)) = ([], 0) := by
  have hb : (0 ≤ p.code ∧ p.code ≤ 16) ∧ (0 ≤ p.value ∧ p.value ≤ 2147483647) := by
    unfold replyB at h
    split at h
    · simp at h; omega
    · simp only [Cd.right, Bool.and_eq_true, decide_eq_true_eq] at h; exact h
  have hx : replyL p = numL p.code 1 ++ (numL p.value 4 ++ (flagL p.more ++ [])) := by simp [replyL]
  rw [hx]
  have r1 := num_of (ok1 (n := p.code) (by omega) (by omega)) (numL p.value 4 ++ (flagL p.more ++ [])) 0
  have r2 := num_of (ok4 (n := p.value) (by omega) (by omega)) (flagL p.more ++ []) 0
  have r3 := flag_of p.more [] 0
  have d1 : c1 (numL p.code 1 ++ (numL p.value 4 ++ (flagL p.more ++ [])), 0) = _ := r1.2
  have d2 : e2 (numL p.code 1 ++ (numL p.value 4 ++ (flagL p.more ++ [])), 0) = (flagL p.more ++ [], 0) := by unfold e2; rw [d1]; exact r2.2
  constructor
  · unfold replyP; rw [d1, d2, r1.1, r2.1, r3.1]
  · rw [d2, r3.2]

/-- WHAT MAY BE IS READ AS IT WAS TOLD -/
theorem body_back {p : Pk} (h : okB p = true) (h60 : p.tm.data.toList.length ≤ 255) : bodP (bodyL p, 0) = p ∧ bodS (bodyL p, 0) = ([], 0) := by
  simp only [okB, Bool.and_eq_true, same_iff] at h
  obtain ⟨hc, hh, hr⟩ := h
  have key : ∀ hk : 0 ≤ p.kind ∧ p.kind < 256, bodP (bodyL p, 0) = restP { Pk.none with kind := p.kind, fr := p.fr, to := p.to, kn := p.kn, ki := p.ki, ks := p.ks, ka := p.ka } (restL p, 0) ∧
      bodS (bodyL p, 0) = restS { Pk.none with kind := p.kind, fr := p.fr, to := p.to, kn := p.kn, ki := p.ki, ks := p.ks, ka := p.ka } (restL p, 0) := fun hk => by
    have := head_back hh hk (restL p) 0
    unfold bodP bodS bodyL
    rw [this.1, this.2]; exact ⟨rfl, rfl⟩
  rcases kinds p.kind with hk | hk | hk | hk | hk | hk
  · have hr1 : callB p = true := by unfold restB at hr; rw [if_pos hk] at hr; exact hr
    obtain ⟨k1, k2⟩ := key (by omega)
    have hl : restL p = callL p := by unfold restL; rw [if_pos hk]
    obtain ⟨b1, b2⟩ := call_back (q := { Pk.none with kind := p.kind, fr := p.fr, to := p.to, kn := p.kn, ki := p.ki, ks := p.ks, ka := p.ka }) hr1 h60
    rw [k1, k2, hl]
    unfold restP restS
    simp only [hk, if_true]
    rw [hk] at b1
    rw [b1, b2]
    refine ⟨?_, rfl⟩
    rw [hc]; unfold clean; rw [if_pos hk]; simp [Pk.none, hk]
  · have hr1 : replyB p = true := by unfold restB at hr; rw [if_neg (by omega), if_pos hk] at hr; exact hr
    obtain ⟨k1, k2⟩ := key (by omega)
    have hl : restL p = replyL p := by unfold restL; rw [if_neg (by omega), if_pos hk]
    obtain ⟨b1, b2⟩ := reply_back (q := { Pk.none with kind := p.kind, fr := p.fr, to := p.to, kn := p.kn, ki := p.ki, ks := p.ks, ka := p.ka }) hr1
    rw [k1, k2, hl]
    unfold restP restS
    rw [hk] at b1 ⊢
    simp only [show ¬ (2 : Int) = 1 by decide, if_false, if_true]
    rw [b1, b2]
    refine ⟨?_, rfl⟩
    rw [hc]; unfold clean; rw [if_neg (by omega), if_pos hk]; simp [Pk.none, hk]
  · obtain ⟨k1, k2⟩ := key (by omega)
    have hl : restL p = [] := by unfold restL; rw [if_neg (by omega), if_neg (by omega), if_neg (by omega), if_neg (by omega)]
    rw [k1, k2, hl]
    unfold restP restS
    rw [hk]
    simp only [show ¬ (3 : Int) = 1 by decide, show ¬ (3 : Int) = 2 by decide, if_false, if_true]
    refine ⟨?_, trivial⟩
    rw [hc]; unfold clean; rw [if_neg (by omega), if_neg (by omega), if_neg (by omega), if_neg (by omega)]; simp [Pk.none, hk]
  · have hr1 : timeB p.til = true := by unfold restB at hr; rw [if_neg (by omega), if_neg (by omega), if_neg (by omega), if_pos hk] at hr; exact hr
    have ht := time_iff.1 hr1
    obtain ⟨k1, k2⟩ := key (by omega)
    have hl : restL p = numL p.til 7 ++ [] := by unfold restL; rw [if_neg (by omega), if_neg (by omega), if_pos hk, List.append_nil]
    have r1 := num_of (ok7 (n := p.til) (by omega) (by omega)) [] 0
    rw [k1, k2, hl]
    unfold restP restS
    rw [hk]
    simp only [show ¬ (4 : Int) = 1 by decide, show ¬ (4 : Int) = 2 by decide, show ¬ (4 : Int) = 3 by decide, if_false, if_true]
    rw [r1.1, r1.2]
    refine ⟨?_, rfl⟩
    rw [hc]; unfold clean; rw [if_neg (by omega), if_neg (by omega), if_pos hk]; simp [Pk.none, hk]
  · have hr1 : -1 ≤ p.delay ∧ p.delay ≤ 1125899906842624 := by unfold restB at hr; rw [if_neg (by omega), if_neg (by omega), if_neg (by omega), if_neg (by omega), if_pos hk] at hr; simpa using hr
    obtain ⟨k1, k2⟩ := key (by omega)
    have hl : restL p = numL (p.delay + 1) 7 ++ [] := by unfold restL; rw [if_neg (by omega), if_neg (by omega), if_neg (by omega), if_pos hk, List.append_nil]
    have r1 := num_of (ok7 (n := p.delay + 1) (by omega) (by omega)) [] 0
    rw [k1, k2, hl]
    unfold restP restS
    rw [hk]
    simp only [show ¬ (5 : Int) = 1 by decide, show ¬ (5 : Int) = 2 by decide, show ¬ (5 : Int) = 3 by decide, show ¬ (5 : Int) = 4 by decide, if_false, if_true]
    rw [r1.1, r1.2]
    refine ⟨?_, rfl⟩
    rw [hc]; unfold clean; rw [if_neg (by omega), if_neg (by omega), if_neg (by omega), if_pos hk]; simp [Pk.none, hk]
  · unfold restB at hr; rw [if_neg hk.1, if_neg hk.2.1, if_neg hk.2.2.1, if_neg hk.2.2.2.1, if_neg hk.2.2.2.2] at hr; cases hr

/-! ### what is read is told as just these bytes -/
theorem read_on {s : S} (h : (readS s).2 = 0) : s.2 = 0 ∧ codeL (rdn s) (rdi s) (rds s) ++ (readS s).1 = s.1 := by
  cases ok : readOk s with
  | false => rw [(readV_no ok).2] at h; exact absurd h (failS_bad (by decide))
  | true =>
    rw [(readV_yes ok).2] at h ⊢
    obtain ⟨g3, b3⟩ := num_back (s := s2 s) (k := 3) h
    obtain ⟨g2, b2⟩ := num_back (s := s1 s) (k := 2) g3
    obtain ⟨g1, b1⟩ := num_back (s := s) (k := 1) g2
    refine ⟨g1, ?_⟩
    have e1 : rdn s = numV s 1 := by unfold rdn; rw [ok]; rfl
    have e2 : rdi s = numV (s1 s) 2 := by unfold rdi; rw [ok]; rfl
    have e3 : rds s = numV (s2 s) 3 := by unfold rds; rw [ok]; rfl
    rw [e1, e2, e3]
    show (numL _ 1 ++ (numL _ 2 ++ numL _ 3)) ++ (numS (s2 s) 3).1 = _
    rw [List.append_assoc, List.append_assoc, b3, show (s2 s).1 = (numS (s1 s) 2).1 from rfl, b2]
    exact b1
theorem key_on {s : S} (h : (rkS s).2 = 0) : s.2 = 0 ∧ keyCodeL (kvn s) (kvi s) (kvs s) (kva s) ++ (rkS s).1 = s.1 := by
  cases ok : rkOk s with
  | false => rw [(rk_no ok).2] at h; exact absurd h (failS_bad (by decide))
  | true =>
    rw [(rk_yes ok).2] at h ⊢
    obtain ⟨g2, b2⟩ := num_back (s := readS s) (k := 1) h
    obtain ⟨g1, b1⟩ := read_on g2
    refine ⟨g1, ?_⟩
    have e1 : kvn s = rdn s := by unfold kvn; rw [ok]; rfl
    have e2 : kvi s = rdi s := by unfold kvi; rw [ok]; rfl
    have e3 : kvs s = rds s := by unfold kvs; rw [ok]; rfl
    have e4 : kva s = numV (readS s) 1 := by unfold kva; rw [ok]; rfl
    rw [e1, e2, e3, e4]
    show (codeL _ _ _ ++ numL _ 1) ++ (numS (readS s) 1).1 = _
    rw [List.append_assoc, b2]; exact b1
theorem headL_eq (s : S) : headL (headP s) = numL (numV s 1 : Int) 1 ++ (numL (numV (a1 s) 1 : Int) 1 ++ (numL (numV (a2 s) 1 : Int) 1 ++ keyCodeL (kvn (a3 s)) (kvi (a3 s)) (kvs (a3 s)) (kva (a3 s)))) := by
  unfold headL headP; dsimp only
theorem callL_eq (p : Pk) (s : S) : callL (callP p s) = numL (numV s 1 : Int) 1 ++ (numL (numV (c1 s) 7 : Int) 7 ++ (textL (textV (c2 s)) ++ (numL (numV (c3 s) 7 : Int) 7 ++ (numL (numV (c4 s) 1 : Int) 1 ++ (codeL (rdn (c5 s)) (rdi (c5 s)) (rds (c5 s)) ++ keyCodeL (kvn (c6 s)) (kvi (c6 s)) (kvs (c6 s)) (kva (c6 s))))))) := by
  unfold callL callP; dsimp only
theorem replyL_eq (p : Pk) (s : S) : replyL (replyP p s) = numL (numV s 1 : Int) 1 ++ (numL (numV (c1 s) 4 : Int) 4 ++ flagL (flagV (e2 s))) := by
  unfold replyL replyP; dsimp only
theorem head_on {s : S} (h : (headS s).2 = 0) : s.2 = 0 ∧ headL (headP s) ++ (headS s).1 = s.1 := by
  obtain ⟨g4, b4⟩ := key_on (s := a3 s) h
  obtain ⟨g3, b3⟩ := num_back (s := a2 s) (k := 1) g4
  obtain ⟨g2, b2⟩ := num_back (s := a1 s) (k := 1) g3
  obtain ⟨g1, b1⟩ := num_back (s := s) (k := 1) g2
  refine ⟨g1, ?_⟩
  rw [headL_eq, show headS s = rkS (a3 s) from rfl]
  simp only [List.append_assoc]
  rw [b4, show (a3 s).1 = (numS (a2 s) 1).1 from rfl, b3, show (a2 s).1 = (numS (a1 s) 1).1 from rfl, b2]
  exact b1
theorem call_on {p : Pk} {s : S} (h : (callS s).2 = 0) : s.2 = 0 ∧ callL (callP p s) ++ (callS s).1 = s.1 := by
  obtain ⟨g7, b7⟩ := key_on (s := c6 s) h
  obtain ⟨g6, b6⟩ := read_on (s := c5 s) g7
  obtain ⟨g5, b5⟩ := num_back (s := c4 s) (k := 1) g6
  obtain ⟨g4, b4⟩ := num_back (s := c3 s) (k := 7) g5
  obtain ⟨g3, b3⟩ := text_back (s := c2 s) g4
  obtain ⟨g2, b2⟩ := num_back (s := c1 s) (k := 7) g3
  obtain ⟨g1, b1⟩ := num_back (s := s) (k := 1) g2
  refine ⟨g1, ?_⟩
  rw [callL_eq, show callS s = rkS (c6 s) from rfl]
  simp only [List.append_assoc]
  rw [b7, show (c6 s).1 = (readS (c5 s)).1 from rfl, b6, show (c5 s).1 = (numS (c4 s) 1).1 from rfl, b5, show (c4 s).1 = (numS (c3 s) 7).1 from rfl, b4, show (c3 s).1 = (textS (c2 s)).1 from rfl, b3, show (c2 s).1 = (numS (c1 s) 7).1 from rfl, b2]
  exact b1
theorem reply_on {p : Pk} {s : S} (h : (flagS (e2 s)).2 = 0) : s.2 = 0 ∧ replyL (replyP p s) ++ (flagS (e2 s)).1 = s.1 := by
  obtain ⟨g3, b3⟩ := flag_back (s := e2 s) h
  obtain ⟨g2, b2⟩ := num_back (s := c1 s) (k := 4) g3
  obtain ⟨g1, b1⟩ := num_back (s := s) (k := 1) g2
  refine ⟨g1, ?_⟩
  rw [replyL_eq]
  simp only [List.append_assoc]
  rw [b3, show (e2 s).1 = (numS (c1 s) 4).1 from rfl, b2]
  exact b1
theorem rest_on {p : Pk} {s : S} (h : (restS p s).2 = 0) : s.2 = 0 ∧ headL (restP p s) = headL p ∧ restL (restP p s) ++ (restS p s).1 = s.1 := by
  rcases kinds p.kind with hk | hk | hk | hk | hk | hk
  · have e1 : restP p s = callP p s := by unfold restP; rw [if_pos hk]
    have e2 : restS p s = callS s := by unfold restS; rw [if_pos hk]
    rw [e2] at h
    obtain ⟨g, b⟩ := call_on (p := p) h
    refine ⟨g, by rw [e1]; unfold headL callP; dsimp only, ?_⟩
    have hl : restL (callP p s) = callL (callP p s) := by unfold restL; rw [if_pos (show (callP p s).kind = 1 from hk)]
    rw [e1, e2, hl]; exact b
  · have e1 : restP p s = replyP p s := by unfold restP; simp [hk]
    have e2' : restS p s = flagS (e2 s) := by unfold restS; simp [hk]
    rw [e2'] at h
    obtain ⟨g, b⟩ := reply_on (p := p) h
    refine ⟨g, by rw [e1]; rfl, ?_⟩
    have hl : restL (replyP p s) = replyL (replyP p s) := by unfold restL; rw [if_neg (show ¬ (replyP p s).kind = 1 by show ¬ p.kind = 1; omega), if_pos (show (replyP p s).kind = 2 from hk)]
    rw [e1, e2', hl]; exact b
  · have e1 : restP p s = p := by unfold restP; simp [hk]
    have e2 : restS p s = s := by unfold restS; simp [hk]
    rw [e2] at h
    refine ⟨h, by rw [e1], ?_⟩
    have hl : restL p = [] := by unfold restL; simp [hk]
    rw [e1, e2, hl]; rfl
  · have e1 : restP p s = { p with til := numV s 7 } := by unfold restP; simp [hk]
    have e2 : restS p s = numS s 7 := by unfold restS; simp [hk]
    rw [e2] at h
    obtain ⟨g, b⟩ := num_back h
    refine ⟨g, by rw [e1]; rfl, ?_⟩
    have hl : restL { p with til := numV s 7 } = numL (numV s 7 : Int) 7 := by unfold restL; simp [hk]
    rw [e1, e2, hl]; exact b
  · have e1 : restP p s = { p with delay := numV s 7 - 1 } := by unfold restP; simp [hk]
    have e2 : restS p s = numS s 7 := by unfold restS; simp [hk]
    rw [e2] at h
    obtain ⟨g, b⟩ := num_back h
    refine ⟨g, by rw [e1]; rfl, ?_⟩
    have hl : restL { p with delay := numV s 7 - 1 } = numL (numV s 7 : Int) 7 := by unfold restL; simp [hk]
    rw [e1, e2, hl]; exact b
  · have e2 : restS p s = failS s 9 := by unfold restS; simp [hk.1, hk.2.1, hk.2.2.1, hk.2.2.2.1, hk.2.2.2.2]
    rw [e2] at h
    exact absurd h (failS_bad (by decide))
theorem end_zero {s : S} (h : endV s = 0) : s.2 = 0 ∧ s.1 = [] := by
  unfold endV endS at h
  split at h
  · exact absurd h (failS_bad (by decide))
  · exact ⟨h, List.length_eq_zero_iff.1 (by omega)⟩
/-- WHAT IS READ TO THE END IS TOLD AS JUST THESE BYTES -/
theorem body_on {l : List UInt8} (h : endV (bodS (l, 0)) = 0) : bodyL (bodP (l, 0)) = l := by
  obtain ⟨h1, h2⟩ := end_zero h
  obtain ⟨g, hh, b⟩ := rest_on h1
  obtain ⟨_, b1⟩ := head_on (s := (l, 0)) g
  unfold bodyL bodP
  unfold bodS at h2
  rw [h2, List.append_nil] at b
  rw [hh, b]; exact b1

/-! ### what is sealed is opened; what is changed is not -/
theorem open_sealed (l : List UInt8) : Cr.openOk (CrM.sealed l) = true ∧ Cr.openT (CrM.sealed l) = l := by
  have hlen := CrM.seal_len l
  have ok : Cr.openOk (CrM.sealed l) = true := by
    unfold Cr.openOk; rw [CrM.seal_cr, decide_eq_true (by omega)]; rfl
  refine ⟨ok, ?_⟩
  rw [Cr.openT_yes _ ok, hlen]
  show (l ++ _).take (l.length + 2 - 2) = l
  simp
theorem open_changed (l : List UInt8) (i : Nat) (x : UInt8) (hi : i < (CrM.sealed l).length) (hx : x ≠ 0) : Cr.openOk (CrM.chg (CrM.sealed l) i x) = false := by
  unfold Cr.openOk
  rw [decide_eq_false (CrM.finds_one _ i x hi (CrM.seal_cr l) hx)]; simp

end Go.Proofs.YtncdiggejofbbaaGreatDoor.PkM

namespace Go.Proofs.YtncdiggejofbbaaGreatDoor.Pk
open Go.RowKit Go.Sort St BsM IdM PkM
open Go.Proofs.YtncdiggejofbbaaGreatDoor.Id
open Go.Proofs.YtncdiggejofbbaaGreatDoor.Bs (kept_blk num_any text_any flag_any)
set_option linter.unusedVariables false

theorem key_named (n i s a : Int) : ∃ E : ByteArray, Hid ((⟨(keyCodeL n i s a).toArray⟩ : ByteArray) = E) ∧ E.size ≤ 28 := by
  refine ⟨_, rfl, ?_⟩
  rw [size_list]
  obtain ⟨b, hb, h2⟩ := num_named a 1
  rw [← hb.out, size_list] at h2
  have h1 := codeL_len n i s
  have h2' : (numL a 1).length ≤ 7 := h2
  show (keyCodeL n i s a).length ≤ 28
  simp only [keyCodeL, List.length_append]
  omega
theorem text_named (l : List UInt8) : ∃ E : ByteArray, Hid ((⟨(textL l).toArray⟩ : ByteArray) = E) ∧ E.size ≤ 256 := by
  refine ⟨_, rfl, ?_⟩
  rw [size_list]
  show (textL l).length ≤ 256
  unfold textL; split <;> simp; omega
theorem flag_named (b : Bool) : ∃ E : ByteArray, Hid ((⟨(flagL b).toArray⟩ : ByteArray) = E) ∧ E.size ≤ 1 := by
  refine ⟨_, rfl, ?_⟩
  rw [size_list]
  cases b <;> decide
theorem cat4 {a b c d D : ByteArray} {p : Pk} (h1 : Hid ((⟨(numL p.kind 1).toArray⟩ : ByteArray) = a)) (h2 : Hid ((⟨(numL p.fr 1).toArray⟩ : ByteArray) = b)) (h3 : Hid ((⟨(numL p.to 1).toArray⟩ : ByteArray) = c)) (h4 : Hid ((⟨(keyCodeL p.kn p.ki p.ks p.ka).toArray⟩ : ByteArray) = d)) (hD : Hid ((⟨(headL p).toArray⟩ : ByteArray) = D)) : (a ++ b ++ c ++ d).data.toList = D.data.toList := by
  rw [← h1.out, ← h2.out, ← h3.out, ← h4.out, ← hD.out]; simp [headL]
theorem cat3r {a b c D : ByteArray} {p : Pk} (h1 : Hid ((⟨(numL p.code 1).toArray⟩ : ByteArray) = a)) (h2 : Hid ((⟨(numL p.value 4).toArray⟩ : ByteArray) = b)) (h3 : Hid ((⟨(flagL p.more).toArray⟩ : ByteArray) = c)) (hD : Hid ((⟨(replyL p).toArray⟩ : ByteArray) = D)) : (a ++ b ++ c).data.toList = D.data.toList := by
  rw [← h1.out, ← h2.out, ← h3.out, ← hD.out]; simp [replyL]
theorem cat7 {a b c d e f g D : ByteArray} {p : Pk} (h1 : Hid ((⟨(numL p.hop 1).toArray⟩ : ByteArray) = a)) (h2 : Hid ((⟨(numL p.stamp 7).toArray⟩ : ByteArray) = b)) (h3 : Hid ((⟨(textL p.tm.data.toList).toArray⟩ : ByteArray) = c)) (h4 : Hid ((⟨(numL p.til 7).toArray⟩ : ByteArray) = d))
    (h5 : Hid ((⟨(numL p.prog 1).toArray⟩ : ByteArray) = e)) (h6 : Hid ((⟨(codeL p.rn p.ri p.rs).toArray⟩ : ByteArray) = f)) (h7 : Hid ((⟨(keyCodeL p.pn p.pi p.ps p.pa).toArray⟩ : ByteArray) = g)) (hD : Hid ((⟨(callL p).toArray⟩ : ByteArray) = D)) : (a ++ b ++ c ++ d ++ e ++ f ++ g).data.toList = D.data.toList := by
  rw [← h1.out, ← h2.out, ← h3.out, ← h4.out, ← h5.out, ← h6.out, ← h7.out, ← hD.out]; simp [callL]

set_option maxRecDepth 100000 in
set_option maxHeartbeats 4000000 in
theorem headcode_as {p : Pk} {D : ByteArray} (hD : Hid ((⟨(headL p).toArray⟩ : ByteArray) = D)) {w : World} : Calls Tryz.prog 50 #[.agg p.arr] w fun e w' => e = .returned (.string D) ∧ Kept w w' := by
  obtain ⟨a, h1, s1⟩ := num_named p.kind 1
  obtain ⟨b, h2, s2⟩ := num_named p.fr 1
  obtain ⟨c, h3, s3⟩ := num_named p.to 1
  obtain ⟨d, h4, s4⟩ := key_named p.kn p.ki p.ks p.ka
  obtain ⟨W, hW, hA⟩ := boxp w p
  have HW := Lib.hid hW
  have x0 := cell_regrown (show W.cell? ⟨w.heap.size, 0, none⟩ = some (.int .i64 p.kind) from hA.c 0)
  have x1 := cell_regrown (show W.cell? ⟨w.heap.size, 1, none⟩ = some (.int .i64 p.fr) from hA.c 1)
  have x2 := cell_regrown (show W.cell? ⟨w.heap.size, 2, none⟩ = some (.int .i64 p.to) from hA.c 2)
  have x3 := cell_regrown (show W.cell? ⟨w.heap.size, 3, none⟩ = some (.int .i64 p.kn) from hA.c 3)
  have x4 := cell_regrown (show W.cell? ⟨w.heap.size, 4, none⟩ = some (.int .i64 p.ki) from hA.c 4)
  have x5 := cell_regrown (show W.cell? ⟨w.heap.size, 5, none⟩ = some (.int .i64 p.ks) from hA.c 5)
  have x6 := cell_regrown (show W.cell? ⟨w.heap.size, 6, none⟩ = some (.int .i64 p.ka) from hA.c 6)
  have Q1 := quiet_at hA.kept (fun x hx => num_any p.kind 1 x)
  have Q2 := quiet_at hA.kept (fun x hx => num_any p.fr 1 x)
  have Q3 := quiet_at hA.kept (fun x hx => num_any p.to 1 x)
  have Q4 := quiet_at hA.kept (fun x hx => keycode_as (w := x) h4)
  rw [h1.out] at Q1; rw [h2.out] at Q2; rw [h3.out] at Q3
  have HC := Lib.hid (cat4 h1 h2 h3 h4 hD)
  have n1 : ¬ 9223372036854775807 < a.size + b.size := by omega
  have n2 : ¬ 9223372036854775807 < a.size + b.size + c.size := by omega
  have n3 : ¬ 9223372036854775807 < a.size + b.size + c.size + d.size := by omega
  have HA := Lib.hid hA
  clear hW hA hD
  go_enter Tryz.func50, Tryz.ntmps50
  go_wp2_with fail
  rw [HW.out]
  refine wp_region_quiet_below (by kernel_rfl) (by kernel_rfl) ?_
  repeat (go_big_quiet_step (first | (with_reducible exact Q1.out _) | (with_reducible exact Q2.out _) | (with_reducible exact Q3.out _) | (with_reducible exact Q4.out _)))
  refine wpQuiet_nil ?_
  intro _ hw'
  obtain ⟨⟨dq, osq⟩, hw''⟩ := hw'
  subst hw''
  go_wp2_with fail
  go_ret
  exact ⟨ret_str HC.out, HA.out.kept.trans (below_regrown _ dq osq)⟩

theorem restL1 {p : Pk} (h : p.kind = 1) : restL p = callL p := by unfold restL; rw [if_pos h]
theorem restL2 {p : Pk} (h : p.kind = 2) : restL p = replyL p := by unfold restL; rw [if_neg (by omega), if_pos h]
theorem restL4 {p : Pk} (h : p.kind = 4) : restL p = numL p.til 7 := by unfold restL; rw [if_neg (by omega), if_neg (by omega), if_pos h]
theorem restL5 {p : Pk} (h : p.kind = 5) : restL p = numL (p.delay + 1) 7 := by unfold restL; rw [if_neg (by omega), if_neg (by omega), if_neg (by omega), if_pos h]
theorem restL0 {p : Pk} (h : p.kind = 3) : restL p = [] := by unfold restL; rw [if_neg (by omega), if_neg (by omega), if_neg (by omega), if_neg (by omega)]

set_option maxRecDepth 100000 in
set_option maxHeartbeats 4000000 in
theorem restcode1 {p : Pk} (hk : p.kind = 1) {D : ByteArray} (hD : Hid ((⟨(callL p).toArray⟩ : ByteArray) = D)) {w : World} : Calls Tryz.prog 51 #[.agg p.arr] w fun e w' => e = .returned (.string D) ∧ Kept w w' := by
  obtain ⟨a, h1, s1⟩ := num_named p.hop 1
  obtain ⟨b, h2, s2⟩ := num_named p.stamp 7
  obtain ⟨c, h3, s3⟩ := text_named p.tm.data.toList
  obtain ⟨d, h4, s4⟩ := num_named p.til 7
  obtain ⟨e, h5, s5⟩ := num_named p.prog 1
  obtain ⟨f, h6, s6⟩ := code_named p.rn p.ri p.rs
  obtain ⟨g, h7, s7⟩ := key_named p.pn p.pi p.ps p.pa
  have x0 : p.arr[0]? = some (.int .i64 1) := by rw [← hk]; rfl
  obtain ⟨W, hW, hA⟩ := boxp w p
  have HW := Lib.hid hW
  have x7 := cell_regrown (show W.cell? ⟨w.heap.size, 7, none⟩ = some (.int .i64 p.hop) from hA.c 7)
  have x8 := cell_regrown (show W.cell? ⟨w.heap.size, 8, none⟩ = some (.int .i64 p.stamp) from hA.c 8)
  have x9 := cell_regrown (show W.cell? ⟨w.heap.size, 9, none⟩ = some (.string p.tm) from hA.c 9)
  have x10 := cell_regrown (show W.cell? ⟨w.heap.size, 10, none⟩ = some (.int .i64 p.til) from hA.c 10)
  have x11 := cell_regrown (show W.cell? ⟨w.heap.size, 11, none⟩ = some (.int .i64 p.prog) from hA.c 11)
  have x12 := cell_regrown (show W.cell? ⟨w.heap.size, 12, none⟩ = some (.int .i64 p.rn) from hA.c 12)
  have x13 := cell_regrown (show W.cell? ⟨w.heap.size, 13, none⟩ = some (.int .i64 p.ri) from hA.c 13)
  have x14 := cell_regrown (show W.cell? ⟨w.heap.size, 14, none⟩ = some (.int .i64 p.rs) from hA.c 14)
  have x15 := cell_regrown (show W.cell? ⟨w.heap.size, 15, none⟩ = some (.int .i64 p.pn) from hA.c 15)
  have x16 := cell_regrown (show W.cell? ⟨w.heap.size, 16, none⟩ = some (.int .i64 p.pi) from hA.c 16)
  have x17 := cell_regrown (show W.cell? ⟨w.heap.size, 17, none⟩ = some (.int .i64 p.ps) from hA.c 17)
  have x18 := cell_regrown (show W.cell? ⟨w.heap.size, 18, none⟩ = some (.int .i64 p.pa) from hA.c 18)
  have Q1 := quiet_at hA.kept (fun x hx => num_any p.hop 1 x)
  have Q2 := quiet_at hA.kept (fun x hx => num_any p.stamp 7 x)
  have Q3 := quiet_at hA.kept (fun x hx => text_any p.tm x)
  have Q4 := quiet_at hA.kept (fun x hx => num_any p.til 7 x)
  have Q5 := quiet_at hA.kept (fun x hx => num_any p.prog 1 x)
  have Q6 := quiet_at hA.kept (fun x hx => code_as (w := x) h6)
  have Q7 := quiet_at hA.kept (fun x hx => keycode_as (w := x) h7)
  rw [h1.out] at Q1; rw [h2.out] at Q2; rw [h3.out] at Q3; rw [h4.out] at Q4; rw [h5.out] at Q5
  have HC := Lib.hid (cat7 h1 h2 h3 h4 h5 h6 h7 hD)
  have n1 : ¬ 9223372036854775807 < a.size + b.size := by omega
  have n2 : ¬ 9223372036854775807 < a.size + b.size + c.size := by omega
  have n3 : ¬ 9223372036854775807 < a.size + b.size + c.size + d.size := by omega
  have n4 : ¬ 9223372036854775807 < a.size + b.size + c.size + d.size + e.size := by omega
  have n5 : ¬ 9223372036854775807 < a.size + b.size + c.size + d.size + e.size + f.size := by omega
  have n6 : ¬ 9223372036854775807 < a.size + b.size + c.size + d.size + e.size + f.size + g.size := by omega
  have HA := Lib.hid hA
  clear hW hA hD hk
  go_enter Tryz.func51, Tryz.ntmps51
  go_wp2_with fail
  rw [HW.out]
  refine wp_region_quiet_below (by kernel_rfl) (by kernel_rfl) ?_
  repeat (go_big_quiet_step (first | (with_reducible exact Q1.out _) | (with_reducible exact Q2.out _) | (with_reducible exact Q3.out _) | (with_reducible exact Q4.out _) | (with_reducible exact Q5.out _) | (with_reducible exact Q6.out _) | (with_reducible exact Q7.out _)))
  refine wpQuiet_nil ?_
  intro _ hw'
  obtain ⟨⟨dq, osq⟩, hw''⟩ := hw'
  subst hw''
  go_wp2_with fail
  go_ret
  exact ⟨ret_str HC.out, HA.out.kept.trans (below_regrown _ dq osq)⟩

set_option maxRecDepth 100000 in
set_option maxHeartbeats 4000000 in
theorem restcode2 {p : Pk} (hk : p.kind = 2) {D : ByteArray} (hD : Hid ((⟨(replyL p).toArray⟩ : ByteArray) = D)) {w : World} : Calls Tryz.prog 51 #[.agg p.arr] w fun e w' => e = .returned (.string D) ∧ Kept w w' := by
  obtain ⟨a, h1, s1⟩ := num_named p.code 1
  obtain ⟨b, h2, s2⟩ := num_named p.value 4
  obtain ⟨c, h3, s3⟩ := flag_named p.more
  have x0 : p.arr[0]? = some (.int .i64 2) := by rw [← hk]; rfl
  obtain ⟨W, hW, hA⟩ := boxp w p
  have HW := Lib.hid hW
  have x19 := cell_regrown (show W.cell? ⟨w.heap.size, 19, none⟩ = some (.int .i64 p.code) from hA.c 19)
  have x20 := cell_regrown (show W.cell? ⟨w.heap.size, 20, none⟩ = some (.int .i64 p.value) from hA.c 20)
  have x21 := cell_regrown (show W.cell? ⟨w.heap.size, 21, none⟩ = some (.bool p.more) from hA.c 21)
  have Q1 := quiet_at hA.kept (fun x hx => num_any p.code 1 x)
  have Q2 := quiet_at hA.kept (fun x hx => num_any p.value 4 x)
  have Q3 := quiet_at hA.kept (fun x hx => flag_any p.more x)
  rw [h1.out] at Q1; rw [h2.out] at Q2; rw [h3.out] at Q3
  have HC := Lib.hid (cat3r h1 h2 h3 hD)
  have n1 : ¬ 9223372036854775807 < a.size + b.size := by omega
  have n2 : ¬ 9223372036854775807 < a.size + b.size + c.size := by omega
  have HA := Lib.hid hA
  clear hW hA hD hk
  go_enter Tryz.func51, Tryz.ntmps51
  go_wp2_with fail
  rw [HW.out]
  refine wp_region_quiet_below (by kernel_rfl) (by kernel_rfl) ?_
  repeat (go_big_quiet_step (first | (with_reducible exact Q1.out _) | (with_reducible exact Q2.out _) | (with_reducible exact Q3.out _)))
  refine wpQuiet_nil ?_
  intro _ hw'
  obtain ⟨⟨dq, osq⟩, hw''⟩ := hw'
  subst hw''
  go_wp2_with fail
  go_ret
  exact ⟨ret_str HC.out, HA.out.kept.trans (below_regrown _ dq osq)⟩

set_option maxRecDepth 100000 in
set_option maxHeartbeats 4000000 in
theorem restcode_as {p : Pk} (hr : Hid (restB p = true)) {D : ByteArray} (hD : Hid ((⟨(restL p).toArray⟩ : ByteArray) = D)) {w : World} : Calls Tryz.prog 51 #[.agg p.arr] w fun e w' => e = .returned (.string D) ∧ Kept w w' := by
  have hA := At.new w p
  rcases kinds p.kind with hk | hk | hk | hk | hk | hk
  · exact restcode1 hk (Lib.hid (by rw [← restL1 hk]; exact hD.out))
  · exact restcode2 hk (Lib.hid (by rw [← restL2 hk]; exact hD.out))
  · have x0 : p.arr[0]? = some (.int .i64 3) := by rw [← hk]; rfl
    have hd : Hid ((⟨#[]⟩ : ByteArray) = D) := Lib.hid (by rw [← hD.out, restL0 hk])
    clear hk hD hr
    go_enter Tryz.func51, Tryz.ntmps51
    go_wp2_with fail
    go_ret
    exact ⟨by rw [← hd.out]; rfl, hA.kept⟩
  · have x0 : p.arr[0]? = some (.int .i64 4) := by rw [← hk]; rfl
    have x10 : p.arr[10]? = some (.int .i64 p.til) := rfl
    have hd : Hid ((⟨(numL p.til 7).toArray⟩ : ByteArray) = D) := Lib.hid (by rw [← hD.out, restL4 hk])
    have hn := num_any p.til 7 (w.alloc (.cells p.arr 43 (0, 0)))
    rw [hd.out] at hn
    have HN := Lib.hid hn
    clear hk hD hn hr
    go_enter Tryz.func51, Tryz.ntmps51
    go_wp2_with (go_at_call 68; refine (at_as hA HN.out).mono ?_; rintro e u ⟨rfl, hB⟩)
    go_ret
    exact ⟨rfl, hB.kept⟩
  · have x0 : p.arr[0]? = some (.int .i64 5) := by rw [← hk]; rfl
    have x22 : p.arr[22]? = some (.int .i64 p.delay) := rfl
    have hb : -1 ≤ p.delay ∧ p.delay ≤ 1125899906842624 := by have := hr.out; rw [rest5 hk] at this; simpa using this
    have hb1 := hb.1
    have hb2 := hb.2
    have hd : Hid ((⟨(numL (p.delay + 1) 7).toArray⟩ : ByteArray) = D) := Lib.hid (by rw [← hD.out, restL5 hk])
    have hn := num_any (p.delay + 1) 7 (w.alloc (.cells p.arr 43 (0, 0)))
    rw [hd.out] at hn
    have HN := Lib.hid hn
    clear hk hD hn hr hb
    go_enter Tryz.func51, Tryz.ntmps51
    go_wp2_with (go_at_call 68; refine (at_as hA HN.out).mono ?_; rintro e u ⟨rfl, hB⟩)
    go_ret
    exact ⟨rfl, hB.kept⟩
  · have := hr.out; rw [rest0 hk] at this; cases this

theorem headL_len (p : Pk) : (headL p).length ≤ 49 := by
  obtain ⟨a, h1, s1⟩ := num_named p.kind 1
  obtain ⟨b, h2, s2⟩ := num_named p.fr 1
  obtain ⟨c, h3, s3⟩ := num_named p.to 1
  obtain ⟨d, h4, s4⟩ := key_named p.kn p.ki p.ks p.ka
  have e := congrArg List.length (cat4 h1 h2 h3 h4 (D := ⟨(headL p).toArray⟩) rfl)
  rw [← size_list] at e
  simp at e
  omega
theorem restL_len (p : Pk) : (restL p).length ≤ 400 := by
  unfold restL
  split
  · obtain ⟨a, h1, s1⟩ := num_named p.hop 1
    obtain ⟨b, h2, s2⟩ := num_named p.stamp 7
    obtain ⟨c, h3, s3⟩ := text_named p.tm.data.toList
    obtain ⟨d, h4, s4⟩ := num_named p.til 7
    obtain ⟨e, h5, s5⟩ := num_named p.prog 1
    obtain ⟨f, h6, s6⟩ := code_named p.rn p.ri p.rs
    obtain ⟨g, h7, s7⟩ := key_named p.pn p.pi p.ps p.pa
    have e := congrArg List.length (cat7 h1 h2 h3 h4 h5 h6 h7 (D := ⟨(callL p).toArray⟩) rfl)
    rw [← size_list] at e
    simp at e
    omega
  · split
    · obtain ⟨a, h1, s1⟩ := num_named p.code 1
      obtain ⟨b, h2, s2⟩ := num_named p.value 4
      obtain ⟨c, h3, s3⟩ := flag_named p.more
      have e := congrArg List.length (cat3r h1 h2 h3 (D := ⟨(replyL p).toArray⟩) rfl)
      rw [← size_list] at e
      simp at e
      omega
    · have t : ∀ n k, (numL n k).length ≤ 400 := fun n k => by
        obtain ⟨a, h1, s1⟩ := num_named n k
        rw [← h1.out, size_list] at s1
        have s1' : (numL n k).length ≤ 7 := s1
        omega
      split
      · exact t _ _
      · split
        · exact t _ _
        · simp

set_option maxRecDepth 100000 in
set_option maxHeartbeats 4000000 in
theorem code_pk {p : Pk} (hr : Hid (restB p = true)) {D : ByteArray} (hD : Hid ((⟨(CrM.sealed (bodyL p)).toArray⟩ : ByteArray) = D)) {w : World} (ht : Cr.Tab w) : Calls Tryz.prog 32 #[.agg p.arr] w fun e w' => e = .returned (.string D) ∧ Kept w w' := by
  obtain ⟨a, h1⟩ : ∃ E : ByteArray, Hid ((⟨(headL p).toArray⟩ : ByteArray) = E) := ⟨_, rfl⟩
  obtain ⟨b, h2⟩ : ∃ E : ByteArray, Hid ((⟨(restL p).toArray⟩ : ByteArray) = E) := ⟨_, rfl⟩
  have s1 : a.size ≤ 49 := by rw [← h1.out]; exact headL_len p
  have s2 : b.size ≤ 400 := by rw [← h2.out]; exact restL_len p
  obtain ⟨c, hc⟩ : ∃ E : ByteArray, a ++ b = E := ⟨_, rfl⟩
  have hcl : c.data.toList = bodyL p := by rw [← hc, ← h1.out, ← h2.out]; simp [bodyL]
  have s3 : c.size ≤ 5000 := by rw [← hc]; simp; omega
  obtain ⟨W, hW, hA⟩ := boxp w p
  have HW := Lib.hid hW
  have hl := load_regrown hA.blk
  have Q1 := quiet_at hA.kept (fun x hx => headcode_as (w := x) h1)
  have Q2 := quiet_at hA.kept (fun x hx => restcode_as (w := x) hr h2)
  have Q3 := quiet_at hA.kept (fun x hx => Cr.seal_any c s3 x (ht.kept hx))
  rw [hcl, hD.out, ← hc] at Q3
  have n1 : ¬ 9223372036854775807 < a.size + b.size := by omega
  have HA := Lib.hid hA
  clear hW hA hD hr hcl hc ht
  go_enter Tryz.func32, Tryz.ntmps32
  go_wp2_with fail
  rw [HW.out]
  refine wp_region_quiet_below (by kernel_rfl) (by kernel_rfl) ?_
  repeat (first | (go_big_quiet_want; refine quiet_row 43 (.tmp 1) rfl w.heap.size rfl p.arr hl.out ?_; simp only [Act.put, List.setIfInBounds_toArray, List.set_cons_succ, List.set_cons_zero]; go_big_quiet_on) | go_big_quiet_step (first | (with_reducible exact Q1.out _) | (with_reducible exact Q2.out _) | (with_reducible exact Q3.out _)))
  refine wpQuiet_nil ?_
  intro _ hw'
  obtain ⟨⟨dq, osq⟩, hw''⟩ := hw'
  subst hw''
  go_wp2_with fail
  go_ret
  exact ⟨rfl, HA.out.kept.trans (below_regrown _ dq osq)⟩

end Go.Proofs.YtncdiggejofbbaaGreatDoor.Pk

namespace Go.Proofs.YtncdiggejofbbaaGreatDoor.Pk
open Go.RowKit Go.Sort St BsM IdM PkM
open Go.Proofs.YtncdiggejofbbaaGreatDoor.Id
open Go.Proofs.YtncdiggejofbbaaGreatDoor.Bs (kept_blk Rd Only Does)
set_option linter.unusedVariables false

/-- the packet that is parsed, and what is wrong -/
def prsB (l : List UInt8) : Bool := Cr.openOk l && (decide (endV (bodS (Cr.openT l, 0)) = 0) && okB (bodP (Cr.openT l, 0)))
def prsP (l : List UInt8) : Pk := if prsB l then bodP (Cr.openT l, 0) else Pk.none
def prsE (l : List UInt8) : Int := if Cr.openOk l then (if endV (bodS (Cr.openT l, 0)) = 0 then (if okB (bodP (Cr.openT l, 0)) then 0 else 2) else endV (bodS (Cr.openT l, 0))) else 4
theorem prs_sum {l : List UInt8} (h : Cr.openOk l = false) : prsP l = Pk.none ∧ prsE l = 4 := by unfold prsP prsE prsB; rw [h]; exact ⟨rfl, rfl⟩
theorem prs_bad {l : List UInt8} (h : Cr.openOk l = true) (h2 : ¬ endV (bodS (Cr.openT l, 0)) = 0) : prsP l = Pk.none ∧ prsE l = endV (bodS (Cr.openT l, 0)) := by
  unfold prsP prsE prsB; rw [h, decide_eq_false h2, if_neg h2]; exact ⟨rfl, rfl⟩
theorem prs_arg {l : List UInt8} (h : Cr.openOk l = true) (h2 : endV (bodS (Cr.openT l, 0)) = 0) (h3 : okB (bodP (Cr.openT l, 0)) = false) : prsP l = Pk.none ∧ prsE l = 2 := by
  unfold prsP prsE prsB; rw [h, decide_eq_true h2, if_pos h2, h3]; exact ⟨rfl, rfl⟩
theorem prs_ok {l : List UInt8} (h : Cr.openOk l = true) (h2 : endV (bodS (Cr.openT l, 0)) = 0) (h3 : okB (bodP (Cr.openT l, 0)) = true) : prsP l = bodP (Cr.openT l, 0) ∧ prsE l = 0 := by
  unfold prsP prsE prsB; rw [h, decide_eq_true h2, if_pos h2, h3]; exact ⟨rfl, rfl⟩

/-- where a call w stands that has laid its result and a reader (at block r) -/
structure Pz (w : World) (r : Nat) (s : S) (u : World) : Prop where
  kept : Kept w u
  lt : w.heap.size < r
  rd : Rd u r s
  res : u.heap[w.heap.size]? = some (.cells Pk.none.arr 43 (0, 0))
theorem Pz.go {w : World} {r : Nat} {s s' : S} {u v : World} (h : Pz w r s u) (hr : Rd v r s') (ho : Only r u v) : Pz w r s' v :=
  ⟨ho.below h.kept (by have := h.lt; omega) (Below.size h.kept), h.lt, hr, ho.other h.res (by have := h.lt; omega)⟩
theorem Pz.more {w : World} {r : Nat} {s : S} {u v : World} (h : Pz w r s u) (k : Kept u v) : Pz w r s v := ⟨h.kept.trans k, h.lt, h.rd.kept k, kept_blk k h.res⟩

set_option maxRecDepth 100000 in
set_option maxHeartbeats 4000000 in
theorem parse_sum (D : ByteArray) (hD : D.size ≤ 5000) (w : World) (ht : Cr.Tab w) (h : Cr.openOk D.data.toList = false) : Calls Tryz.prog 31 #[.string D] w fun e w' => e = .returned (.tuple #[.agg (prsP D.data.toList).arr, .int .i64 (prsE D.data.toList)]) ∧ Kept w w' := by
  have hk0 : Kept w (w.alloc (.cells #[.int .i64 0, .int .i64 0, .int .i64 0, .int .i64 0, .int .i64 0, .int .i64 0, .int .i64 0, .int .i64 0, .int .i64 0, .string ⟨#[]⟩, .int .i64 0, .int .i64 0, .int .i64 0, .int .i64 0, .int .i64 0, .int .i64 0, .int .i64 0, .int .i64 0, .int .i64 0, .int .i64 0, .int .i64 0, .bool false, .int .i64 0] 43 (0, 0))) := Kept.one _ _
  have hres0 : (w.alloc (.cells #[.int .i64 0, .int .i64 0, .int .i64 0, .int .i64 0, .int .i64 0, .int .i64 0, .int .i64 0, .int .i64 0, .int .i64 0, .string ⟨#[]⟩, .int .i64 0, .int .i64 0, .int .i64 0, .int .i64 0, .int .i64 0, .int .i64 0, .int .i64 0, .int .i64 0, .int .i64 0, .int .i64 0, .int .i64 0, .bool false, .int .i64 0] 43 (0, 0))).heap[w.heap.size]? = some (.cells Pk.none.arr 43 (0, 0)) := blk_new w _
  have hop := Cr.open_any D hD (w.alloc (.cells #[.int .i64 0, .int .i64 0, .int .i64 0, .int .i64 0, .int .i64 0, .int .i64 0, .int .i64 0, .int .i64 0, .int .i64 0, .string ⟨#[]⟩, .int .i64 0, .int .i64 0, .int .i64 0, .int .i64 0, .int .i64 0, .int .i64 0, .int .i64 0, .int .i64 0, .int .i64 0, .int .i64 0, .int .i64 0, .bool false, .int .i64 0] 43 (0, 0))) (ht.kept hk0)
  obtain ⟨X, hX⟩ : ∃ E : ByteArray, Hid ((⟨(Cr.openT D.data.toList).toArray⟩ : ByteArray) = E) := ⟨_, rfl⟩
  rw [hX.out] at hop
  rw [h] at hop
  have HO := Lib.hid hop
  have HV := Lib.hid (prs_sum h)
  clear hop h ht
  go_enter Tryz.func31, Tryz.ntmps31
  go_wp2_with (first
    | (go_at_call 44; refine HO.out.mono ?_; rintro e u ⟨rfl, hk⟩; have hres := kept_blk hk hres0)
    | (refine wpList_store_row rfl 43 (.tmp 2) (.tmp 16) rfl w.heap.size Pk.none.arr rfl rfl 43 _ hres info_pk rfl (by kernel_rfl) ?_))
  refine bodyPost_ret (Rw.results_row_tmp rfl _ _ w.heap.size 43 _ (0, 0) _ rfl (setRow_heap _ _ _ _ _ _ hres) Tryz.underlying43 rfl info_pk) rfl ?_
  exact ⟨by rw [HV.out.1, HV.out.2]; rfl, kept_row (hk0.trans hk) (Nat.le_refl _) _⟩

set_option maxRecDepth 100000 in
set_option maxHeartbeats 4000000 in
theorem parse_bad (D : ByteArray) (hD : D.size ≤ 5000) (w : World) (ht : Cr.Tab w) (hok : Cr.openOk D.data.toList = true) (h2 : ¬ endV (bodS (Cr.openT D.data.toList, 0)) = 0) : Calls Tryz.prog 31 #[.string D] w fun e w' => e = .returned (.tuple #[.agg (prsP D.data.toList).arr, .int .i64 (prsE D.data.toList)]) ∧ Kept w w' := by
  have hk0 : Kept w (w.alloc (.cells #[.int .i64 0, .int .i64 0, .int .i64 0, .int .i64 0, .int .i64 0, .int .i64 0, .int .i64 0, .int .i64 0, .int .i64 0, .string ⟨#[]⟩, .int .i64 0, .int .i64 0, .int .i64 0, .int .i64 0, .int .i64 0, .int .i64 0, .int .i64 0, .int .i64 0, .int .i64 0, .int .i64 0, .int .i64 0, .bool false, .int .i64 0] 43 (0, 0))) := Kept.one _ _
  have hres0 : (w.alloc (.cells #[.int .i64 0, .int .i64 0, .int .i64 0, .int .i64 0, .int .i64 0, .int .i64 0, .int .i64 0, .int .i64 0, .int .i64 0, .string ⟨#[]⟩, .int .i64 0, .int .i64 0, .int .i64 0, .int .i64 0, .int .i64 0, .int .i64 0, .int .i64 0, .int .i64 0, .int .i64 0, .int .i64 0, .int .i64 0, .bool false, .int .i64 0] 43 (0, 0))).heap[w.heap.size]? = some (.cells Pk.none.arr 43 (0, 0)) := blk_new w _
  have hop := Cr.open_any D hD (w.alloc (.cells #[.int .i64 0, .int .i64 0, .int .i64 0, .int .i64 0, .int .i64 0, .int .i64 0, .int .i64 0, .int .i64 0, .int .i64 0, .string ⟨#[]⟩, .int .i64 0, .int .i64 0, .int .i64 0, .int .i64 0, .int .i64 0, .int .i64 0, .int .i64 0, .int .i64 0, .int .i64 0, .int .i64 0, .int .i64 0, .bool false, .int .i64 0] 43 (0, 0))) (ht.kept hk0)
  obtain ⟨X, hX⟩ : ∃ E : ByteArray, Hid ((⟨(Cr.openT D.data.toList).toArray⟩ : ByteArray) = E) := ⟨_, rfl⟩
  rw [hX.out] at hop
  rw [hok] at hop
  have HO := Lib.hid hop
  have hXl : Hid (X.data.toList = Cr.openT D.data.toList) := Lib.hid (by rw [← hX.out])
  obtain ⟨s, hs⟩ : ∃ s : S, ((Cr.openT D.data.toList, 0) : S) = s := ⟨_, rfl⟩
  have HB := Lib.hid (show ∀ u, Calls Tryz.prog 45 #[.string X] u fun e v => e = .returned (.pointer (some ⟨u.heap.size, 0, none⟩)) ∧ Rd v u.heap.size s ∧ Kept u v from fun u => by
    have := Bs.open_any X u
    rw [hXl.out, hs] at this; exact this)
  obtain ⟨H, hH⟩ : ∃ H, headP s = H := ⟨_, rfl⟩
  obtain ⟨sh, hsh⟩ : ∃ x, headS s = x := ⟨_, rfl⟩
  obtain ⟨P, hP⟩ : ∃ P, bodP s = P := ⟨_, rfl⟩
  obtain ⟨sb, hsb⟩ : ∃ x, bodS s = x := ⟨_, rfl⟩
  obtain ⟨E, hE⟩ : ∃ E, endV sb = E := ⟨_, rfl⟩
  have hP2 : restP H sh = P := by rw [← hH, ← hsh]; exact hP
  have hsb2 : restS H sh = sb := by rw [← hH, ← hsh]; exact hsb
  have HH := Lib.hid (show ∀ (r : Nat) (u : World), Rd u r s → Calls Tryz.prog 47 #[.pointer (some ⟨r, 0, none⟩)] u fun e v => e = .returned (.agg H.arr) ∧ Rd v r sh ∧ Only r u v from fun r u hu => by
    have := readhead_any r s u hu
    rw [hH, hsh] at this; exact this)
  have HR := Lib.hid (show ∀ (r : Nat) (u : World), Rd u r sh → Calls Tryz.prog 46 #[.agg H.arr, .pointer (some ⟨r, 0, none⟩)] u fun e v => e = .returned (.agg P.arr) ∧ Rd v r sb ∧ Only r u v from fun r u hu => by
    have := readrest_any H r sh u hu
    rw [hP2, hsb2] at this; exact this)
  have HE := Lib.hid (show ∀ (r : Nat) (u : World), Rd u r sb → Calls Tryz.prog 48 #[.pointer (some ⟨r, 0, none⟩)] u fun e v => e = .returned (.int .i64 E) ∧ Rd v r (endS sb) ∧ Only r u v from fun r u hu => by
    have := Bs.end_any r sb u hu
    rw [hE] at this; exact this)
  have HV := Lib.hid (show prsP D.data.toList = Pk.none ∧ prsE D.data.toList = E by rw [← hE, ← hsb, ← hs]; exact prs_bad hok h2)
  have hE1 : (E != 0) = true := by rw [hs, hsb, hE] at h2; simpa using h2
  clear hop ht hok h2 hs hH hsh hP hsb hE hP2 hsb2
  go_enter Tryz.func31, Tryz.ntmps31
  go_wp2_with (first
    | (go_at_call 44; refine HO.out.mono ?_; rintro e u1 ⟨rfl, hk1⟩; have hres1 := kept_blk hk1 hres0; have hlt1 := blk_lt hres1)
    | (go_at_call 45; refine (HB.out _).mono ?_; rintro e u2 ⟨rfl, hr2, hk2⟩; have hz2 : Pz w u1.heap.size s u2 := ⟨(hk0.trans hk1).trans hk2, hlt1, hr2, kept_blk hk2 hres1⟩; clear hlt1)
    | (go_at_call 47; refine (HH.out _ _ hz2.rd).mono ?_; rintro e u3 ⟨rfl, hr3, ho3⟩; have hz3 := hz2.go hr3 ho3)
    | (go_at_call 46; refine (HR.out _ _ hz3.rd).mono ?_; rintro e u4 ⟨rfl, hr4, ho4⟩; have hz4 := hz3.go hr4 ho4; have hne4 := Lib.hid (blk_lt hr4))
    | (refine store_new rfl 43 (.tmp 7) (.tmp 22) rfl u4.heap.size P.arr rfl rfl _ _ rfl 23 info_pk rfl rfl (by kernel_rfl) ?_; have hz5 := hz4.more (Kept.one u4 (.cells P.arr 43 (0, 0))); have hp5 := blk_new u4 (.cells P.arr 43 (0, 0)))
    | (go_at_call 48; refine (HE.out _ _ hz5.rd).mono ?_; rintro e u6 ⟨rfl, hr6, ho6⟩; have hz6 := hz5.go hr6 ho6; have hp6 := ho6.other hp5 (Nat.ne_of_gt hne4.out))
    | (refine wpList_store_row rfl 43 (.tmp 2) (.tmp 27) rfl w.heap.size Pk.none.arr rfl rfl 43 _ hz6.res info_pk rfl (by kernel_rfl) ?_))
  refine bodyPost_ret (Rw.results_row_tmp rfl _ _ w.heap.size 43 _ (0, 0) _ rfl (setRow_heap _ _ _ _ _ _ hz6.res) Tryz.underlying43 rfl info_pk) rfl ?_
  exact ⟨by rw [HV.out.1, HV.out.2]; rfl, kept_row hz6.kept (Nat.le_refl _) _⟩

set_option maxRecDepth 100000 in
set_option maxHeartbeats 4000000 in
theorem parse_arg (D : ByteArray) (hD : D.size ≤ 5000) (w : World) (ht : Cr.Tab w) (hok : Cr.openOk D.data.toList = true) (h2 : endV (bodS (Cr.openT D.data.toList, 0)) = 0) (h3 : okB (bodP (Cr.openT D.data.toList, 0)) = false) : Calls Tryz.prog 31 #[.string D] w fun e w' => e = .returned (.tuple #[.agg (prsP D.data.toList).arr, .int .i64 (prsE D.data.toList)]) ∧ Kept w w' := by
  have hk0 : Kept w (w.alloc (.cells #[.int .i64 0, .int .i64 0, .int .i64 0, .int .i64 0, .int .i64 0, .int .i64 0, .int .i64 0, .int .i64 0, .int .i64 0, .string ⟨#[]⟩, .int .i64 0, .int .i64 0, .int .i64 0, .int .i64 0, .int .i64 0, .int .i64 0, .int .i64 0, .int .i64 0, .int .i64 0, .int .i64 0, .int .i64 0, .bool false, .int .i64 0] 43 (0, 0))) := Kept.one _ _
  have hres0 : (w.alloc (.cells #[.int .i64 0, .int .i64 0, .int .i64 0, .int .i64 0, .int .i64 0, .int .i64 0, .int .i64 0, .int .i64 0, .int .i64 0, .string ⟨#[]⟩, .int .i64 0, .int .i64 0, .int .i64 0, .int .i64 0, .int .i64 0, .int .i64 0, .int .i64 0, .int .i64 0, .int .i64 0, .int .i64 0, .int .i64 0, .bool false, .int .i64 0] 43 (0, 0))).heap[w.heap.size]? = some (.cells Pk.none.arr 43 (0, 0)) := blk_new w _
  have hop := Cr.open_any D hD (w.alloc (.cells #[.int .i64 0, .int .i64 0, .int .i64 0, .int .i64 0, .int .i64 0, .int .i64 0, .int .i64 0, .int .i64 0, .int .i64 0, .string ⟨#[]⟩, .int .i64 0, .int .i64 0, .int .i64 0, .int .i64 0, .int .i64 0, .int .i64 0, .int .i64 0, .int .i64 0, .int .i64 0, .int .i64 0, .int .i64 0, .bool false, .int .i64 0] 43 (0, 0))) (ht.kept hk0)
  obtain ⟨X, hX⟩ : ∃ E : ByteArray, Hid ((⟨(Cr.openT D.data.toList).toArray⟩ : ByteArray) = E) := ⟨_, rfl⟩
  rw [hX.out] at hop
  rw [hok] at hop
  have HO := Lib.hid hop
  have hXl : Hid (X.data.toList = Cr.openT D.data.toList) := Lib.hid (by rw [← hX.out])
  obtain ⟨s, hs⟩ : ∃ s : S, ((Cr.openT D.data.toList, 0) : S) = s := ⟨_, rfl⟩
  have HB := Lib.hid (show ∀ u, Calls Tryz.prog 45 #[.string X] u fun e v => e = .returned (.pointer (some ⟨u.heap.size, 0, none⟩)) ∧ Rd v u.heap.size s ∧ Kept u v from fun u => by
    have := Bs.open_any X u
    rw [hXl.out, hs] at this; exact this)
  obtain ⟨H, hH⟩ : ∃ H, headP s = H := ⟨_, rfl⟩
  obtain ⟨sh, hsh⟩ : ∃ x, headS s = x := ⟨_, rfl⟩
  obtain ⟨P, hP⟩ : ∃ P, bodP s = P := ⟨_, rfl⟩
  obtain ⟨sb, hsb⟩ : ∃ x, bodS s = x := ⟨_, rfl⟩
  obtain ⟨E, hE⟩ : ∃ E, endV sb = E := ⟨_, rfl⟩
  have hP2 : restP H sh = P := by rw [← hH, ← hsh]; exact hP
  have hsb2 : restS H sh = sb := by rw [← hH, ← hsh]; exact hsb
  have HH := Lib.hid (show ∀ (r : Nat) (u : World), Rd u r s → Calls Tryz.prog 47 #[.pointer (some ⟨r, 0, none⟩)] u fun e v => e = .returned (.agg H.arr) ∧ Rd v r sh ∧ Only r u v from fun r u hu => by
    have := readhead_any r s u hu
    rw [hH, hsh] at this; exact this)
  have HR := Lib.hid (show ∀ (r : Nat) (u : World), Rd u r sh → Calls Tryz.prog 46 #[.agg H.arr, .pointer (some ⟨r, 0, none⟩)] u fun e v => e = .returned (.agg P.arr) ∧ Rd v r sb ∧ Only r u v from fun r u hu => by
    have := readrest_any H r sh u hu
    rw [hP2, hsb2] at this; exact this)
  have HE := Lib.hid (show ∀ (r : Nat) (u : World), Rd u r sb → Calls Tryz.prog 48 #[.pointer (some ⟨r, 0, none⟩)] u fun e v => e = .returned (.int .i64 E) ∧ Rd v r (endS sb) ∧ Only r u v from fun r u hu => by
    have := Bs.end_any r sb u hu
    rw [hE] at this; exact this)
  have HV := Lib.hid (prs_arg hok h2 h3)
  have hE0 : E = 0 := by rw [← hE, ← hsb, ← hs]; exact h2
  subst hE0
  have hkP : Hid (okB P = false) := Lib.hid (by rw [← hP, ← hs]; exact h3)
  clear hop ht hok h2 h3 hs hH hsh hP hsb hE hP2 hsb2
  go_enter Tryz.func31, Tryz.ntmps31
  go_wp2_with (first
    | (go_at_call 44; refine HO.out.mono ?_; rintro e u1 ⟨rfl, hk1⟩; have hres1 := kept_blk hk1 hres0; have hlt1 := blk_lt hres1)
    | (go_at_call 45; refine (HB.out _).mono ?_; rintro e u2 ⟨rfl, hr2, hk2⟩; have hz2 : Pz w u1.heap.size s u2 := ⟨(hk0.trans hk1).trans hk2, hlt1, hr2, kept_blk hk2 hres1⟩; clear hlt1)
    | (go_at_call 47; refine (HH.out _ _ hz2.rd).mono ?_; rintro e u3 ⟨rfl, hr3, ho3⟩; have hz3 := hz2.go hr3 ho3)
    | (go_at_call 46; refine (HR.out _ _ hz3.rd).mono ?_; rintro e u4 ⟨rfl, hr4, ho4⟩; have hz4 := hz3.go hr4 ho4; have hne4 := Lib.hid (blk_lt hr4))
    | (refine store_new rfl 43 (.tmp 7) (.tmp 22) rfl u4.heap.size P.arr rfl rfl _ _ rfl 23 info_pk rfl rfl (by kernel_rfl) ?_; have hz5 := hz4.more (Kept.one u4 (.cells P.arr 43 (0, 0))); have hp5 := blk_new u4 (.cells P.arr 43 (0, 0)))
    | (go_at_call 48; refine (HE.out _ _ hz5.rd).mono ?_; rintro e u6 ⟨rfl, hr6, ho6⟩; have hz6 := hz5.go hr6 ho6; have hp6 := ho6.other hp5 (Nat.ne_of_gt hne4.out))
    | (refine wpList_load_row rfl 43 (.tmp 7) rfl u4.heap.size rfl 43 P.arr (0, 0) _ hp6 Tryz.underlying43 rfl info_pk ?_)
    | (go_at_call 33; refine (okp_as hkP).mono ?_; rintro e u7 ⟨rfl, hk7⟩; have hz7 := hz6.more hk7)
    | (refine wpList_store_row rfl 43 (.tmp 2) (.tmp 32) rfl w.heap.size Pk.none.arr rfl rfl 43 _ hz7.res info_pk rfl (by kernel_rfl) ?_))
  refine bodyPost_ret (Rw.results_row_tmp rfl _ _ w.heap.size 43 _ (0, 0) _ rfl (setRow_heap _ _ _ _ _ _ hz7.res) Tryz.underlying43 rfl info_pk) rfl ?_
  exact ⟨by rw [HV.out.1, HV.out.2]; rfl, kept_row hz7.kept (Nat.le_refl _) _⟩

set_option maxRecDepth 100000 in
set_option maxHeartbeats 4000000 in
theorem parse_ok (D : ByteArray) (hD : D.size ≤ 5000) (w : World) (ht : Cr.Tab w) (hok : Cr.openOk D.data.toList = true) (h2 : endV (bodS (Cr.openT D.data.toList, 0)) = 0) (h3 : okB (bodP (Cr.openT D.data.toList, 0)) = true) : Calls Tryz.prog 31 #[.string D] w fun e w' => e = .returned (.tuple #[.agg (prsP D.data.toList).arr, .int .i64 (prsE D.data.toList)]) ∧ Kept w w' := by
  have hk0 : Kept w (w.alloc (.cells #[.int .i64 0, .int .i64 0, .int .i64 0, .int .i64 0, .int .i64 0, .int .i64 0, .int .i64 0, .int .i64 0, .int .i64 0, .string ⟨#[]⟩, .int .i64 0, .int .i64 0, .int .i64 0, .int .i64 0, .int .i64 0, .int .i64 0, .int .i64 0, .int .i64 0, .int .i64 0, .int .i64 0, .int .i64 0, .bool false, .int .i64 0] 43 (0, 0))) := Kept.one _ _
  have hres0 : (w.alloc (.cells #[.int .i64 0, .int .i64 0, .int .i64 0, .int .i64 0, .int .i64 0, .int .i64 0, .int .i64 0, .int .i64 0, .int .i64 0, .string ⟨#[]⟩, .int .i64 0, .int .i64 0, .int .i64 0, .int .i64 0, .int .i64 0, .int .i64 0, .int .i64 0, .int .i64 0, .int .i64 0, .int .i64 0, .int .i64 0, .bool false, .int .i64 0] 43 (0, 0))).heap[w.heap.size]? = some (.cells Pk.none.arr 43 (0, 0)) := blk_new w _
  have hop := Cr.open_any D hD (w.alloc (.cells #[.int .i64 0, .int .i64 0, .int .i64 0, .int .i64 0, .int .i64 0, .int .i64 0, .int .i64 0, .int .i64 0, .int .i64 0, .string ⟨#[]⟩, .int .i64 0, .int .i64 0, .int .i64 0, .int .i64 0, .int .i64 0, .int .i64 0, .int .i64 0, .int .i64 0, .int .i64 0, .int .i64 0, .int .i64 0, .bool false, .int .i64 0] 43 (0, 0))) (ht.kept hk0)
  obtain ⟨X, hX⟩ : ∃ E : ByteArray, Hid ((⟨(Cr.openT D.data.toList).toArray⟩ : ByteArray) = E) := ⟨_, rfl⟩
  rw [hX.out] at hop
  rw [hok] at hop
  have HO := Lib.hid hop
  have hXl : Hid (X.data.toList = Cr.openT D.data.toList) := Lib.hid (by rw [← hX.out])
  obtain ⟨s, hs⟩ : ∃ s : S, ((Cr.openT D.data.toList, 0) : S) = s := ⟨_, rfl⟩
  have HB := Lib.hid (show ∀ u, Calls Tryz.prog 45 #[.string X] u fun e v => e = .returned (.pointer (some ⟨u.heap.size, 0, none⟩)) ∧ Rd v u.heap.size s ∧ Kept u v from fun u => by
    have := Bs.open_any X u
    rw [hXl.out, hs] at this; exact this)
  obtain ⟨H, hH⟩ : ∃ H, headP s = H := ⟨_, rfl⟩
  obtain ⟨sh, hsh⟩ : ∃ x, headS s = x := ⟨_, rfl⟩
  obtain ⟨P, hP⟩ : ∃ P, bodP s = P := ⟨_, rfl⟩
  obtain ⟨sb, hsb⟩ : ∃ x, bodS s = x := ⟨_, rfl⟩
  obtain ⟨E, hE⟩ : ∃ E, endV sb = E := ⟨_, rfl⟩
  have hP2 : restP H sh = P := by rw [← hH, ← hsh]; exact hP
  have hsb2 : restS H sh = sb := by rw [← hH, ← hsh]; exact hsb
  have HH := Lib.hid (show ∀ (r : Nat) (u : World), Rd u r s → Calls Tryz.prog 47 #[.pointer (some ⟨r, 0, none⟩)] u fun e v => e = .returned (.agg H.arr) ∧ Rd v r sh ∧ Only r u v from fun r u hu => by
    have := readhead_any r s u hu
    rw [hH, hsh] at this; exact this)
  have HR := Lib.hid (show ∀ (r : Nat) (u : World), Rd u r sh → Calls Tryz.prog 46 #[.agg H.arr, .pointer (some ⟨r, 0, none⟩)] u fun e v => e = .returned (.agg P.arr) ∧ Rd v r sb ∧ Only r u v from fun r u hu => by
    have := readrest_any H r sh u hu
    rw [hP2, hsb2] at this; exact this)
  have HE := Lib.hid (show ∀ (r : Nat) (u : World), Rd u r sb → Calls Tryz.prog 48 #[.pointer (some ⟨r, 0, none⟩)] u fun e v => e = .returned (.int .i64 E) ∧ Rd v r (endS sb) ∧ Only r u v from fun r u hu => by
    have := Bs.end_any r sb u hu
    rw [hE] at this; exact this)
  have HV := Lib.hid (show prsP D.data.toList = P ∧ prsE D.data.toList = 0 by rw [← hP, ← hs]; exact prs_ok hok h2 h3)
  have hE0 : E = 0 := by rw [← hE, ← hsb, ← hs]; exact h2
  subst hE0
  have hkP : Hid (okB P = true) := Lib.hid (by rw [← hP, ← hs]; exact h3)
  clear hop ht hok h2 h3 hs hH hsh hP hsb hE hP2 hsb2
  go_enter Tryz.func31, Tryz.ntmps31
  go_wp2_with (first
    | (go_at_call 44; refine HO.out.mono ?_; rintro e u1 ⟨rfl, hk1⟩; have hres1 := kept_blk hk1 hres0; have hlt1 := blk_lt hres1)
    | (go_at_call 45; refine (HB.out _).mono ?_; rintro e u2 ⟨rfl, hr2, hk2⟩; have hz2 : Pz w u1.heap.size s u2 := ⟨(hk0.trans hk1).trans hk2, hlt1, hr2, kept_blk hk2 hres1⟩; clear hlt1)
    | (go_at_call 47; refine (HH.out _ _ hz2.rd).mono ?_; rintro e u3 ⟨rfl, hr3, ho3⟩; have hz3 := hz2.go hr3 ho3)
    | (go_at_call 46; refine (HR.out _ _ hz3.rd).mono ?_; rintro e u4 ⟨rfl, hr4, ho4⟩; have hz4 := hz3.go hr4 ho4; have hne4 := Lib.hid (blk_lt hr4))
    | (refine store_new rfl 43 (.tmp 7) (.tmp 22) rfl u4.heap.size P.arr rfl rfl _ _ rfl 23 info_pk rfl rfl (by kernel_rfl) ?_; have hz5 := hz4.more (Kept.one u4 (.cells P.arr 43 (0, 0))); have hp5 := blk_new u4 (.cells P.arr 43 (0, 0)))
    | (go_at_call 48; refine (HE.out _ _ hz5.rd).mono ?_; rintro e u6 ⟨rfl, hr6, ho6⟩; have hz6 := hz5.go hr6 ho6; have hp6 := ho6.other hp5 (Nat.ne_of_gt hne4.out))
    | (refine wpList_load_row rfl 43 (.tmp 7) (by rfl) u4.heap.size rfl 43 P.arr (0, 0) _ (by first | exact hp7 | exact hp6) Tryz.underlying43 rfl info_pk ?_)
    | (go_at_call 33; refine (okp_as hkP).mono ?_; rintro e u7 ⟨rfl, hk7⟩; have hz7 := hz6.more hk7; have hp7 := kept_blk hk7 hp6)
    | (refine wpList_store_row rfl 43 (.tmp 2) (.tmp 33) rfl w.heap.size P.arr rfl rfl 43 _ hz7.res info_pk rfl (by kernel_rfl) ?_))
  refine bodyPost_ret (Rw.results_row_tmp rfl _ _ w.heap.size 43 _ (0, 0) _ rfl (setRow_heap _ _ _ _ _ _ hz7.res) Tryz.underlying43 rfl info_pk) rfl ?_
  exact ⟨by rw [HV.out.1, HV.out.2]; rfl, kept_row hz7.kept (Nat.le_refl _) _⟩

theorem parse_any (D : ByteArray) (hD : D.size ≤ 5000) (w : World) (ht : Cr.Tab w) : Calls Tryz.prog 31 #[.string D] w fun e w' => e = .returned (.tuple #[.agg (prsP D.data.toList).arr, .int .i64 (prsE D.data.toList)]) ∧ Kept w w' := by
  cases hok : Cr.openOk D.data.toList with
  | false => exact parse_sum D hD w ht hok
  | true =>
    by_cases h2 : endV (bodS (Cr.openT D.data.toList, 0)) = 0
    · cases h3 : okB (bodP (Cr.openT D.data.toList, 0)) with
      | false => exact parse_arg D hD w ht hok h2 h3
      | true => exact parse_ok D hD w ht hok h2 h3
    · exact parse_bad D hD w ht hok h2

end Go.Proofs.YtncdiggejofbbaaGreatDoor.Pk
