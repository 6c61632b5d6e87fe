/- Plain: packets are parsed as they were told, and what is parsed is told as just these bytes. -/
import Derived.Test.YtpgfaklnbehmhaaDoorPkR
import Derived.Test.YtpgfaklnbehmhaaDoorBsBack
import Derived.Test.YtpgfaklnbehmhaaDoorCr3
namespace Go.Proofs.YtpgfaklnbehmhaaDoor.PkM
open Go.RowKit BsM IdM
open Go.Proofs.YtpgfaklnbehmhaaDoor.Id
set_option linter.unusedVariables false

theorem pw1 : (256 : Nat) ^ (1 : Int).toNat = 256 := by decide
theorem pw2 : (256 : Nat) ^ (2 : Int).toNat = 65536 := by decide
theorem pw3 : (256 : Nat) ^ (3 : Int).toNat = 16777216 := by decide
theorem pw4 : (256 : Nat) ^ (4 : Int).toNat = 4294967296 := by decide
theorem pw7 : (256 : Nat) ^ (7 : Int).toNat = 72057594037927936 := by decide
theorem ok1 {n : Int} (h0 : 0 ≤ n) (h : n < 256) : numOk n 1 = true := numOk_mk (by decide) (by decide) h0 (by rw [pw1]; omega)
theorem ok4 {n : Int} (h0 : 0 ≤ n) (h : n < 4294967296) : numOk n 4 = true := numOk_mk (by decide) (by decide) h0 (by rw [pw4]; omega)
theorem ok7 {n : Int} (h0 : 0 ≤ n) (h : n < 72057594037927936) : numOk n 7 = true := numOk_mk (by decide) (by decide) h0 (by rw [pw7]; omega)

/-! ### what is told is read as it was -/
theorem read_back {n i s : Int} (h : rightB n i s = true) (r : List UInt8) (e : Int) : rdn (codeL n i s ++ r, e) = n ∧ rdi (codeL n i s ++ r, e) = i ∧ rds (codeL n i s ++ r, e) = s ∧ readS (codeL n i s ++ r, e) = (r, e) := by
  obtain ⟨h1, h2, h3⟩ := right_iff.1 h
  have o1 : numOk n 1 = true := ok1 (by omega) (by omega)
  have o2 : numOk i 2 = true := numOk_mk (by decide) (by decide) (by omega) (by rw [pw2]; omega)
  have o3 : numOk s 3 = true := numOk_mk (by decide) (by decide) (by omega) (by rw [pw3]; omega)
  have hx : codeL n i s ++ r = numL n 1 ++ (numL i 2 ++ (numL s 3 ++ r)) := by simp [codeL]
  rw [hx]
  have r1 := num_of o1 (numL i 2 ++ (numL s 3 ++ r)) e
  have r2 := num_of o2 (numL s 3 ++ r) e
  have r3 := num_of o3 r e
  have c1 : s1 (numL n 1 ++ (numL i 2 ++ (numL s 3 ++ r)), e) = (numL i 2 ++ (numL s 3 ++ r), e) := r1.2
  have c2 : s2 (numL n 1 ++ (numL i 2 ++ (numL s 3 ++ r)), e) = (numL s 3 ++ r, e) := by unfold s2; rw [c1]; exact r2.2
  have c3 : s3 (numL n 1 ++ (numL i 2 ++ (numL s 3 ++ r)), e) = (r, e) := by unfold s3; rw [c2]; exact r3.2
  have v1 : vn (numL n 1 ++ (numL i 2 ++ (numL s 3 ++ r)), e) = n := r1.1
  have v2 : vi (numL n 1 ++ (numL i 2 ++ (numL s 3 ++ r)), e) = i := by unfold vi; rw [c1]; exact r2.1
  have v3 : vs (numL n 1 ++ (numL i 2 ++ (numL s 3 ++ r)), e) = s := by unfold vs; rw [c2]; exact r3.1
  have ok : readOk (numL n 1 ++ (numL i 2 ++ (numL s 3 ++ r)), e) = true := by unfold readOk; rw [v1, v2, v3]; exact h
  refine ⟨?_, ?_, ?_, ?_⟩
  · unfold rdn; rw [ok, v1]; rfl
  · unfold rdi; rw [ok, v2]; rfl
  · unfold rds; rw [ok, v3]; rfl
  · rw [(readV_yes ok).2, c3]
theorem key_back {n i s a : Int} (h : keyB n i s a = true) (r : List UInt8) (e : Int) :
    kvn (keyCodeL n i s a ++ r, e) = n ∧ kvi (keyCodeL n i s a ++ r, e) = i ∧ kvs (keyCodeL n i s a ++ r, e) = s ∧ kva (keyCodeL n i s a ++ r, e) = a ∧ rkS (keyCodeL n i s a ++ r, e) = (r, e) := by
  obtain ⟨hr, ha⟩ := key_iff.1 h
  have o4 : numOk a 1 = true := ok1 (by omega) (by omega)
  have hx : keyCodeL n i s a ++ r = codeL n i s ++ (numL a 1 ++ r) := by simp [keyCodeL]
  rw [hx]
  obtain ⟨w1, w2, w3, cs⟩ := read_back hr (numL a 1 ++ r) e
  have r4 := num_of o4 r e
  have va : rda (codeL n i s ++ (numL a 1 ++ r), e) = a := by unfold rda; rw [cs]; exact r4.1
  have th : there (codeL n i s ++ (numL a 1 ++ r), e) = true := by
    unfold there; rw [cs]; have := num_len o4; simp only [decide_eq_true_eq, List.length_append]; omega
  have rk : rkOk (codeL n i s ++ (numL a 1 ++ r), e) = true := by unfold rkOk; rw [th, w1, w2, w3, va, h]; rfl
  refine ⟨?_, ?_, ?_, ?_, ?_⟩
  · unfold kvn; rw [rk, w1]; rfl
  · unfold kvi; rw [rk, w2]; rfl
  · unfold kvs; rw [rk, w3]; rfl
  · unfold kva; rw [rk, va]; rfl
  · rw [(rk_yes rk).2, cs]; exact r4.2
theorem head_iff {p : Pk} : headB p = true ↔ (0 ≤ p.fr ∧ p.fr ≤ 63) ∧ (0 ≤ p.to ∧ p.to ≤ 63) ∧ keyB p.kn p.ki p.ks p.ka = true ∧ 1 ≤ p.ka := by
  simp [headB, nodeB]
theorem head_back {p : Pk} (h : headB p = true) (hk : 0 ≤ p.kind ∧ p.kind < 256) (r : List UInt8) (e : Int) :
    headP (headL p ++ r, e) = { Pk.none with kind := p.kind, fr := p.fr, to := p.to, kn := p.kn, ki := p.ki, ks := p.ks, ka := p.ka } ∧ headS (headL p ++ r, e) = (r, e) := by
  obtain ⟨h1, h2, h3, h4⟩ := head_iff.1 h
  have hx : headL p ++ r = numL p.kind 1 ++ (numL p.fr 1 ++ (numL p.to 1 ++ (keyCodeL p.kn p.ki p.ks p.ka ++ r))) := by simp [headL]
  rw [hx]
  have r1 := num_of (ok1 hk.1 hk.2) (numL p.fr 1 ++ (numL p.to 1 ++ (keyCodeL p.kn p.ki p.ks p.ka ++ r))) e
  have r2 := num_of (ok1 (n := p.fr) (by omega) (by omega)) (numL p.to 1 ++ (keyCodeL p.kn p.ki p.ks p.ka ++ r)) e
  have r3 := num_of (ok1 (n := p.to) (by omega) (by omega)) (keyCodeL p.kn p.ki p.ks p.ka ++ r) e
  obtain ⟨k1, k2, k3, k4, k5⟩ := key_back h3 r e
  have d1 : a1 (numL p.kind 1 ++ (numL p.fr 1 ++ (numL p.to 1 ++ (keyCodeL p.kn p.ki p.ks p.ka ++ r))), e) = _ := r1.2
  have d2 : a2 (numL p.kind 1 ++ (numL p.fr 1 ++ (numL p.to 1 ++ (keyCodeL p.kn p.ki p.ks p.ka ++ r))), e) = (numL p.to 1 ++ (keyCodeL p.kn p.ki p.ks p.ka ++ r), e) := by unfold a2; rw [d1]; exact r2.2
  have d3 : a3 (numL p.kind 1 ++ (numL p.fr 1 ++ (numL p.to 1 ++ (keyCodeL p.kn p.ki p.ks p.ka ++ r))), e) = (keyCodeL p.kn p.ki p.ks p.ka ++ r, e) := by unfold a3; rw [d2]; exact r3.2
  constructor
  · unfold headP; rw [d1, d2, d3, r1.1, r2.1, r3.1, k1, k2, k3, k4]
  · unfold headS; rw [d3, k5]
theorem time_iff {t : Int} : timeB t = true ↔ 0 ≤ t ∧ t ≤ 1125899906842624 := by simp [timeB]
theorem call_back {p q : Pk} (h : callB p = true) (h60 : p.tm.data.toList.length ≤ 255) :
    callP q (callL p, 0) = { q with hop := p.hop, stamp := p.stamp, tm := p.tm, til := p.til, prog := p.prog, rn := p.rn, ri := p.ri, rs := p.rs, pn := p.pn, pi := p.pi, ps := p.ps, pa := p.pa } ∧ callS (callL p, 0) = ([], 0) := by
  simp only [callB, Bool.and_eq_true, decide_eq_true_eq, time_iff] at h
  obtain ⟨hd, h1, h2, h3, h4, h5, h6⟩ := h
  have hx : callL p = numL p.hop 1 ++ (numL p.stamp 7 ++ (textL p.tm.data.toList ++ (numL p.til 7 ++ (numL p.prog 1 ++ (codeL p.rn p.ri p.rs ++ (keyCodeL p.pn p.pi p.ps p.pa ++ [])))))) := by simp [callL]
  rw [hx]
  have r1 := num_of (ok1 (n := p.hop) (by omega) (by omega)) (numL p.stamp 7 ++ (textL p.tm.data.toList ++ (numL p.til 7 ++ (numL p.prog 1 ++ (codeL p.rn p.ri p.rs ++ (keyCodeL p.pn p.pi p.ps p.pa ++ [])))))) 0
  have r2 := num_of (ok7 (n := p.stamp) (by omega) (by omega)) (textL p.tm.data.toList ++ (numL p.til 7 ++ (numL p.prog 1 ++ (codeL p.rn p.ri p.rs ++ (keyCodeL p.pn p.pi p.ps p.pa ++ []))))) 0
  have r3 := text_of h60 (numL p.til 7 ++ (numL p.prog 1 ++ (codeL p.rn p.ri p.rs ++ (keyCodeL p.pn p.pi p.ps p.pa ++ [])))) 0
  have r4 := num_of (ok7 (n := p.til) (by omega) (by omega)) (numL p.prog 1 ++ (codeL p.rn p.ri p.rs ++ (keyCodeL p.pn p.pi p.ps p.pa ++ []))) 0
  have r5 := num_of (ok1 (n := p.prog) (by omega) (by omega)) (codeL p.rn p.ri p.rs ++ (keyCodeL p.pn p.pi p.ps p.pa ++ [])) 0
  obtain ⟨x1, x2, x3, x4⟩ := read_back h5 (keyCodeL p.pn p.pi p.ps p.pa ++ []) 0
  obtain ⟨k1, k2, k3, k4, k5⟩ := key_back h6 [] 0
  generalize hL : numL p.hop 1 ++ (numL p.stamp 7 ++ (textL p.tm.data.toList ++ (numL p.til 7 ++ (numL p.prog 1 ++ (codeL p.rn p.ri p.rs ++ (keyCodeL p.pn p.pi p.ps p.pa ++ [])))))) = L at r1 ⊢
  have d1 : c1 (L, 0) = _ := r1.2
  have d2 : c2 (L, 0) = _ := (congrArg (fun x => numS x 7) d1).trans r2.2
  have d3 : c3 (L, 0) = _ := (congrArg textS d2).trans r3.2
  have d4 : c4 (L, 0) = _ := (congrArg (fun x => numS x 7) d3).trans r4.2
  have d5 : c5 (L, 0) = _ := (congrArg (fun x => numS x 1) d4).trans r5.2
  have d6 : c6 (L, 0) = _ := (congrArg readS d5).trans x4
  constructor
  · unfold callP; rw [d1, d2, d3, d4, d5, d6, r1.1, r2.1, r3.1, r4.1, r5.1, x1, x2, x3, k1, k2, k3, k4]
  · unfold callS; rw [d6, k5]
theorem reply_back {p q : Pk} (h : replyB p = true) : replyP q (replyL p, 0) = { q with code := p.code, value := p.value, more := p.more } ∧ flagS (e2 (replyL p, 0)) = ([], 0) := by
  have hb : (0 ≤ p.code ∧ p.code ≤ 16) ∧ (0 ≤ p.value ∧ p.value ≤ 2147483647) := by
    unfold replyB at h
    split at h
    · simp at h; omega
    · simp only [Cd.right, Bool.and_eq_true, decide_eq_true_eq] at h; exact h
  have hx : replyL p = numL p.code 1 ++ (numL p.value 4 ++ (flagL p.more ++ [])) := by simp [replyL]
  rw [hx]
  have r1 := num_of (ok1 (n := p.code) (by omega) (by omega)) (numL p.value 4 ++ (flagL p.more ++ [])) 0
  have r2 := num_of (ok4 (n := p.value) (by omega) (by omega)) (flagL p.more ++ []) 0
  have r3 := flag_of p.more [] 0
  have d1 : c1 (numL p.code 1 ++ (numL p.value 4 ++ (flagL p.more ++ [])), 0) = _ := r1.2
  have d2 : e2 (numL p.code 1 ++ (numL p.value 4 ++ (flagL p.more ++ [])), 0) = (flagL p.more ++ [], 0) := by unfold e2; rw [d1]; exact r2.2
  constructor
  · unfold replyP; rw [d1, d2, r1.1, r2.1, r3.1]
  · rw [d2, r3.2]

/-- WHAT MAY BE IS READ AS IT WAS TOLD -/
theorem body_back {p : Pk} (h : okB p = true) (h60 : p.tm.data.toList.length ≤ 255) : bodP (bodyL p, 0) = p ∧ bodS (bodyL p, 0) = ([], 0) := by
  simp only [okB, Bool.and_eq_true, same_iff] at h
  obtain ⟨hc, hh, hr⟩ := h
  have key : ∀ hk : 0 ≤ p.kind ∧ p.kind < 256, bodP (bodyL p, 0) = restP { Pk.none with kind := p.kind, fr := p.fr, to := p.to, kn := p.kn, ki := p.ki, ks := p.ks, ka := p.ka } (restL p, 0) ∧
      bodS (bodyL p, 0) = restS { Pk.none with kind := p.kind, fr := p.fr, to := p.to, kn := p.kn, ki := p.ki, ks := p.ks, ka := p.ka } (restL p, 0) := fun hk => by
    have := head_back hh hk (restL p) 0
    unfold bodP bodS bodyL
    rw [this.1, this.2]; exact ⟨rfl, rfl⟩
  rcases kinds p.kind with hk | hk | hk | hk | hk | hk
  · have hr1 : callB p = true := by unfold restB at hr; rw [if_pos hk] at hr; exact hr
    obtain ⟨k1, k2⟩ := key (by omega)
    have hl : restL p = callL p := by unfold restL; rw [if_pos hk]
    obtain ⟨b1, b2⟩ := call_back (q := { Pk.none with kind := p.kind, fr := p.fr, to := p.to, kn := p.kn, ki := p.ki, ks := p.ks, ka := p.ka }) hr1 h60
    rw [k1, k2, hl]
    unfold restP restS
    simp only [hk, if_true]
    rw [hk] at b1
    rw [b1, b2]
    refine ⟨?_, rfl⟩
    rw [hc]; unfold clean; rw [if_pos hk]; simp [Pk.none, hk]
  · have hr1 : replyB p = true := by unfold restB at hr; rw [if_neg (by omega), if_pos hk] at hr; exact hr
    obtain ⟨k1, k2⟩ := key (by omega)
    have hl : restL p = replyL p := by unfold restL; rw [if_neg (by omega), if_pos hk]
    obtain ⟨b1, b2⟩ := reply_back (q := { Pk.none with kind := p.kind, fr := p.fr, to := p.to, kn := p.kn, ki := p.ki, ks := p.ks, ka := p.ka }) hr1
    rw [k1, k2, hl]
    unfold restP restS
    rw [hk] at b1 ⊢
    simp only [show ¬ (2 : Int) = 1 by decide, if_false, if_true]
    rw [b1, b2]
    refine ⟨?_, rfl⟩
    rw [hc]; unfold clean; rw [if_neg (by omega), if_pos hk]; simp [Pk.none, hk]
  · obtain ⟨k1, k2⟩ := key (by omega)
    have hl : restL p = [] := by unfold restL; rw [if_neg (by omega), if_neg (by omega), if_neg (by omega), if_neg (by omega)]
    rw [k1, k2, hl]
    unfold restP restS
    rw [hk]
    simp only [show ¬ (3 : Int) = 1 by decide, show ¬ (3 : Int) = 2 by decide, if_false, if_true]
    refine ⟨?_, trivial⟩
    rw [hc]; unfold clean; rw [if_neg (by omega), if_neg (by omega), if_neg (by omega), if_neg (by omega)]; simp [Pk.none, hk]
  · have hr1 : timeB p.til = true := by unfold restB at hr; rw [if_neg (by omega), if_neg (by omega), if_neg (by omega), if_pos hk] at hr; exact hr
    have ht := time_iff.1 hr1
    obtain ⟨k1, k2⟩ := key (by omega)
    have hl : restL p = numL p.til 7 ++ [] := by unfold restL; rw [if_neg (by omega), if_neg (by omega), if_pos hk, List.append_nil]
    have r1 := num_of (ok7 (n := p.til) (by omega) (by omega)) [] 0
    rw [k1, k2, hl]
    unfold restP restS
    rw [hk]
    simp only [show ¬ (4 : Int) = 1 by decide, show ¬ (4 : Int) = 2 by decide, show ¬ (4 : Int) = 3 by decide, if_false, if_true]
    rw [r1.1, r1.2]
    refine ⟨?_, rfl⟩
    rw [hc]; unfold clean; rw [if_neg (by omega), if_neg (by omega), if_pos hk]; simp [Pk.none, hk]
  · have hr1 : -1 ≤ p.delay ∧ p.delay ≤ 1125899906842624 := by unfold restB at hr; rw [if_neg (by omega), if_neg (by omega), if_neg (by omega), if_neg (by omega), if_pos hk] at hr; simpa using hr
    obtain ⟨k1, k2⟩ := key (by omega)
    have hl : restL p = numL (p.delay + 1) 7 ++ [] := by unfold restL; rw [if_neg (by omega), if_neg (by omega), if_neg (by omega), if_pos hk, List.append_nil]
    have r1 := num_of (ok7 (n := p.delay + 1) (by omega) (by omega)) [] 0
    rw [k1, k2, hl]
    unfold restP restS
    rw [hk]
    simp only [show ¬ (5 : Int) = 1 by decide, show ¬ (5 : Int) = 2 by decide, show ¬ (5 : Int) = 3 by decide, show ¬ (5 : Int) = 4 by decide, if_false, if_true]
    rw [r1.1, r1.2]
    refine ⟨?_, rfl⟩
    rw [hc]; unfold clean; rw [if_neg (by omega), if_neg (by omega), if_neg (by omega), if_pos hk]; simp [Pk.none, hk]
  · unfold restB at hr; rw [if_neg hk.1, if_neg hk.2.1, if_neg hk.2.2.1, if_neg hk.2.2.2.1, if_neg hk.2.2.2.2] at hr; cases hr

/-! ### what is read is told as just these bytes -/
theorem read_on {s : S} (h : (readS s).2 = 0) : s.2 = 0 ∧ codeL (rdn s) (rdi s) (rds s) ++ (readS s).1 = s.1 := by
  cases ok : readOk s with
  | false => rw [(readV_no ok).2] at h; exact absurd h (failS_bad (by decide))
  | true =>
    rw [(readV_yes ok).2] at h ⊢
    obtain ⟨g3, b3⟩ := num_back (s := s2 s) (k := 3) h
    obtain ⟨g2, b2⟩ := num_back (s := s1 s) (k := 2) g3
    obtain ⟨g1, b1⟩ := num_back (s := s) (k := 1) g2
    refine ⟨g1, ?_⟩
    have e1 : rdn s = numV s 1 := by unfold rdn; rw [ok]; rfl
    have e2 : rdi s = numV (s1 s) 2 := by unfold rdi; rw [ok]; rfl
    have e3 : rds s = numV (s2 s) 3 := by unfold rds; rw [ok]; rfl
    rw [e1, e2, e3]
    show (numL _ 1 ++ (numL _ 2 ++ numL _ 3)) ++ (numS (s2 s) 3).1 = _
    rw [List.append_assoc, List.append_assoc, b3, show (s2 s).1 = (numS (s1 s) 2).1 from rfl, b2]
    exact b1
theorem key_on {s : S} (h : (rkS s).2 = 0) : s.2 = 0 ∧ keyCodeL (kvn s) (kvi s) (kvs s) (kva s) ++ (rkS s).1 = s.1 := by
  cases ok : rkOk s with
  | false => rw [(rk_no ok).2] at h; exact absurd h (failS_bad (by decide))
  | true =>
    rw [(rk_yes ok).2] at h ⊢
    obtain ⟨g2, b2⟩ := num_back (s := readS s) (k := 1) h
    obtain ⟨g1, b1⟩ := read_on g2
    refine ⟨g1, ?_⟩
    have e1 : kvn s = rdn s := by unfold kvn; rw [ok]; rfl
    have e2 : kvi s = rdi s := by unfold kvi; rw [ok]; rfl
    have e3 : kvs s = rds s := by unfold kvs; rw [ok]; rfl
    have e4 : kva s = numV (readS s) 1 := by unfold kva; rw [ok]; rfl
    rw [e1, e2, e3, e4]
    show (codeL _ _ _ ++ numL _ 1) ++ (numS (readS s) 1).1 = _
    rw [List.append_assoc, b2]; exact b1
theorem headL_eq (s : S) : headL (headP s) = numL (numV s 1 : Int) 1 ++ (numL (numV (a1 s) 1 : Int) 1 ++ (numL (numV (a2 s) 1 : Int) 1 ++ keyCodeL (kvn (a3 s)) (kvi (a3 s)) (kvs (a3 s)) (kva (a3 s)))) := by
  unfold headL headP; dsimp only
theorem callL_eq (p : Pk) (s : S) : callL (callP p s) = numL (numV s 1 : Int) 1 ++ (numL (numV (c1 s) 7 : Int) 7 ++ (textL (textV (c2 s)) ++ (numL (numV (c3 s) 7 : Int) 7 ++ (numL (numV (c4 s) 1 : Int) 1 ++ (codeL (rdn (c5 s)) (rdi (c5 s)) (rds (c5 s)) ++ keyCodeL (kvn (c6 s)) (kvi (c6 s)) (kvs (c6 s)) (kva (c6 s))))))) := by
  unfold callL callP; dsimp only
theorem replyL_eq (p : Pk) (s : S) : replyL (replyP p s) = numL (numV s 1 : Int) 1 ++ (numL (numV (c1 s) 4 : Int) 4 ++ flagL (flagV (e2 s))) := by
  unfold replyL replyP; dsimp only
theorem head_on {s : S} (h : (headS s).2 = 0) : s.2 = 0 ∧ headL (headP s) ++ (headS s).1 = s.1 := by
  obtain ⟨g4, b4⟩ := key_on (s := a3 s) h
  obtain ⟨g3, b3⟩ := num_back (s := a2 s) (k := 1) g4
  obtain ⟨g2, b2⟩ := num_back (s := a1 s) (k := 1) g3
  obtain ⟨g1, b1⟩ := num_back (s := s) (k := 1) g2
  refine ⟨g1, ?_⟩
  rw [headL_eq, show headS s = rkS (a3 s) from rfl]
  simp only [List.append_assoc]
  rw [b4, show (a3 s).1 = (numS (a2 s) 1).1 from rfl, b3, show (a2 s).1 = (numS (a1 s) 1).1 from rfl, b2]
  exact b1
theorem call_on {p : Pk} {s : S} (h : (callS s).2 = 0) : s.2 = 0 ∧ callL (callP p s) ++ (callS s).1 = s.1 := by
  obtain ⟨g7, b7⟩ := key_on (s := c6 s) h
  obtain ⟨g6, b6⟩ := read_on (s := c5 s) g7
  obtain ⟨g5, b5⟩ := num_back (s := c4 s) (k := 1) g6
  obtain ⟨g4, b4⟩ := num_back (s := c3 s) (k := 7) g5
  obtain ⟨g3, b3⟩ := text_back (s := c2 s) g4
  obtain ⟨g2, b2⟩ := num_back (s := c1 s) (k := 7) g3
  obtain ⟨g1, b1⟩ := num_back (s := s) (k := 1) g2
  refine ⟨g1, ?_⟩
  rw [callL_eq, show callS s = rkS (c6 s) from rfl]
  simp only [List.append_assoc]
  rw [b7, show (c6 s).1 = (readS (c5 s)).1 from rfl, b6, show (c5 s).1 = (numS (c4 s) 1).1 from rfl, b5, show (c4 s).1 = (numS (c3 s) 7).1 from rfl, b4, show (c3 s).1 = (textS (c2 s)).1 from rfl, b3, show (c2 s).1 = (numS (c1 s) 7).1 from rfl, b2]
  exact b1
theorem reply_on {p : Pk} {s : S} (h : (flagS (e2 s)).2 = 0) : s.2 = 0 ∧ replyL (replyP p s) ++ (flagS (e2 s)).1 = s.1 := by
  obtain ⟨g3, b3⟩ := flag_back (s := e2 s) h
  obtain ⟨g2, b2⟩ := num_back (s := c1 s) (k := 4) g3
  obtain ⟨g1, b1⟩ := num_back (s := s) (k := 1) g2
  refine ⟨g1, ?_⟩
  rw [replyL_eq]
  simp only [List.append_assoc]
  rw [b3, show (e2 s).1 = (numS (c1 s) 4).1 from rfl, b2]
  exact b1
theorem rest_on {p : Pk} {s : S} (h : (restS p s).2 = 0) : s.2 = 0 ∧ headL (restP p s) = headL p ∧ restL (restP p s) ++ (restS p s).1 = s.1 := by
  rcases kinds p.kind with hk | hk | hk | hk | hk | hk
  · have e1 : restP p s = callP p s := by unfold restP; rw [if_pos hk]
    have e2 : restS p s = callS s := by unfold restS; rw [if_pos hk]
    rw [e2] at h
    obtain ⟨g, b⟩ := call_on (p := p) h
    refine ⟨g, by rw [e1]; unfold headL callP; dsimp only, ?_⟩
    have hl : restL (callP p s) = callL (callP p s) := by unfold restL; rw [if_pos (show (callP p s).kind = 1 from hk)]
    rw [e1, e2, hl]; exact b
  · have e1 : restP p s = replyP p s := by unfold restP; simp [hk]
    have e2' : restS p s = flagS (e2 s) := by unfold restS; simp [hk]
    rw [e2'] at h
    obtain ⟨g, b⟩ := reply_on (p := p) h
    refine ⟨g, by rw [e1]; rfl, ?_⟩
    have hl : restL (replyP p s) = replyL (replyP p s) := by unfold restL; rw [if_neg (show ¬ (replyP p s).kind = 1 by show ¬ p.kind = 1; omega), if_pos (show (replyP p s).kind = 2 from hk)]
    rw [e1, e2', hl]; exact b
  · have e1 : restP p s = p := by unfold restP; simp [hk]
    have e2 : restS p s = s := by unfold restS; simp [hk]
    rw [e2] at h
    refine ⟨h, by rw [e1], ?_⟩
    have hl : restL p = [] := by unfold restL; simp [hk]
    rw [e1, e2, hl]; rfl
  · have e1 : restP p s = { p with til := numV s 7 } := by unfold restP; simp [hk]
    have e2 : restS p s = numS s 7 := by unfold restS; simp [hk]
    rw [e2] at h
    obtain ⟨g, b⟩ := num_back h
    refine ⟨g, by rw [e1]; rfl, ?_⟩
    have hl : restL { p with til := numV s 7 } = numL (numV s 7 : Int) 7 := by unfold restL; simp [hk]
    rw [e1, e2, hl]; exact b
  · have e1 : restP p s = { p with delay := numV s 7 - 1 } := by unfold restP; simp [hk]
    have e2 : restS p s = numS s 7 := by unfold restS; simp [hk]
    rw [e2] at h
    obtain ⟨g, b⟩ := num_back h
    refine ⟨g, by rw [e1]; rfl, ?_⟩
    have hl : restL { p with delay := numV s 7 - 1 } = numL (numV s 7 : Int) 7 := by unfold restL; simp [hk]
    rw [e1, e2, hl]; exact b
  · have e2 : restS p s = failS s 9 := by unfold restS; simp [hk.1, hk.2.1, hk.2.2.1, hk.2.2.2.1, hk.2.2.2.2]
    rw [e2] at h
    exact absurd h (failS_bad (by decide))
theorem end_zero {s : S} (h : endV s = 0) : s.2 = 0 ∧ s.1 = [] := by
  unfold endV endS at h
  split at h
  · exact absurd h (failS_bad (by decide))
  · exact ⟨h, List.length_eq_zero_iff.1 (by omega)⟩
/-- WHAT IS READ TO THE END IS TOLD AS JUST THESE BYTES -/
theorem body_on {l : List UInt8} (h : endV (bodS (l, 0)) = 0) : bodyL (bodP (l, 0)) = l := by
  obtain ⟨h1, h2⟩ := end_zero h
  obtain ⟨g, hh, b⟩ := rest_on h1
  obtain ⟨_, b1⟩ := head_on (s := (l, 0)) g
  unfold bodyL bodP
  unfold bodS at h2
  rw [h2, List.append_nil] at b
  rw [hh, b]; exact b1

/-! ### what is sealed is opened; what is changed is not -/
theorem open_sealed (l : List UInt8) : Cr.openOk (CrM.sealed l) = true ∧ Cr.openT (CrM.sealed l) = l := by
  have hlen := CrM.seal_len l
  have ok : Cr.openOk (CrM.sealed l) = true := by
    unfold Cr.openOk; rw [CrM.seal_cr, decide_eq_true (by omega)]; rfl
  refine ⟨ok, ?_⟩
  rw [Cr.openT_yes _ ok, hlen]
  show (l ++ _).take (l.length + 2 - 2) = l
  simp
theorem open_changed (l : List UInt8) (i : Nat) (x : UInt8) (hi : i < (CrM.sealed l).length) (hx : x ≠ 0) : Cr.openOk (CrM.chg (CrM.sealed l) i x) = false := by
  unfold Cr.openOk
  rw [decide_eq_false (CrM.finds_one _ i x hi (CrM.seal_cr l) hx)]; simp

end Go.Proofs.YtpgfaklnbehmhaaDoor.PkM
