import Derived.Test.YtemleibpmaclmaaSI
import Derived.WalkMore
namespace Go.Proofs.Ytemleibpmaclmaa.Kit
open Go.RowKit Go.Shelf Go.Deep
set_option linter.unusedVariables false
attribute [local go_sem] run_store_func

def mLen : Value → Nat
  | .slice _ n _ => n
  | _ => 0
theorem takeF_nil (n : Nat) (s : Sc) : takeF n s [] = s := by cases n <;> simp [takeF]
/-- how a feed stands -/
structure Fd (w W V : World) (p : Nat) (x y : Value) (N : Nat) (R : Nat → Row) (wo : Option Addr) (wc : Nat) (r : Sc) (X o n : Nat) (e : Int) (s' : Sc) (R' : Nat → Row) (wo' : Option Addr) (wc' : Nat) (rest : List UInt8) (fuel : Nat) : Prop where
  fr : From w W V p 76 [x, y] N R wo wc s' R' wo' wc'
  len : rest.length = n
  bytes : BytesAt W (some ⟨X, o, none⟩) rest
  go : (e = 0 ∧ PreOk s' ∧ 0 < s'.left ∧ n ≤ fuel ∧ r = takeF fuel s' rest ∧ s'.ms.length + n ≤ 100000000000) ∨ (e ≠ 0 ∧ r = wrongF s' e)
def wrongCells (n : Nat) (e : Int) (wo : Option Addr) (wc : Nat) : List Value :=
  [.int .i64 0, .int .i64 0, .int .i64 0, .int .i64 0, .slice none 0 0, .int .i64 0, .int .i64 0, .int .u32 0, .slice none 0 0, .slice none 0 0, .slice wo n wc, .int .i64 e]
theorem Rb.wrong {w W V : World} {p T : Nat} {tl : List Value} {s : Sc} {R : Nat → Row} {wo : Option Addr} {wc : Nat} {e : Int} (h : Rb w W p T tl s R wo wc) (hb : V.heap[p]? = some (.cells (wrongCells s.ms.length e wo wc ++ tl).toArray T (0, 0))) (k : Keeps W V (fun g => g = p)) :
    Rd w V p T tl (wrongF s e) (nil3 R) wo wc := by
  have r := h.begun (st := 0) (V := W.setRow p (beginCells s 0 wo wc ++ tl).toArray) (setRow_heap W p _ _ T (0, 0) h.box) ⟨rfl, rfl, rfl, by simp, fun k hk hn => setRow_other W p k _ hn⟩
  have oth : ∀ g, g ≠ p → g < W.heap.size → V.heap[g]? = (W.setRow p (beginCells s 0 wo wc ++ tl).toArray).heap[g]? := fun g hg hl => by rw [setRow_other W p g _ hg]; exact k.block g hl hg
  have wsz := h.gr.size
  have hsz : (W.setRow p (beginCells s 0 wo wc ++ tl).toArray).heap.size = W.heap.size := by simp
  refine ⟨h.gr.trans k (fun j hj e => by have := h.pnew; omega), r.pnew, r.ty, hb, fun i hi => ?_, r.rnew, r.apart, ?_, r.wnew⟩
  · have o := r.rows i hi
    have e : (wrongF s e).row i = (({ beginF s 0 with left := 0 } : Sc)).row i := rfl
    rw [e]
    have tp : Typ W p T := ⟨_, _, h.box⟩
    exact own_kp o fun g q => (oth g (fun z => by
      have t1 := own_typ o q
      have t2 : Typ (W.setRow p (beginCells s 0 wo wc ++ tl).toArray) p T := ⟨_, _, r.box⟩
      subst z
      have := t1.ne t2
      rcases h.ty with q | q <;> omega) (by have := own_lt o g q; omega))
  · exact r.wown.kp fun g q => (oth g (fun z => by
      have t1 := r.wown.typ q
      have t2 : Typ (W.setRow p (beginCells s 0 wo wc ++ tl).toArray) p T := ⟨_, _, r.box⟩
      subst z
      have := t1.ne t2
      rcases h.ty with q | q <;> omega) (by have := r.wown.lt q; omega))
set_option maxRecDepth 100000 in
set_option maxHeartbeats 16000000 in
theorem take_some {w W : World} {p : Nat} {x y : Value} {s : Sc} {R : Nat → Row} {wo : Option Addr} {wc : Nat} {X o ac : Nat} {b : List UInt8} (h : Rd w W p 76 [x, y] s R wo wc) (hb : BytesAt W (some ⟨X, o, none⟩) b) (hne : b ≠ []) (hac : b.length ≤ ac) (hacm : ac ≤ 9223372036854775807) (hsep : ¬ RIs p s.ms.length R wo wc X) (hlen : b.length ≤ 140737488355000) (hms : s.ms.length + b.length ≤ 100000000000) (hok : s.e ≠ 0 ∨ (PreOk s ∧ 0 < s.left)) :
    Calls Try.prog 40 #[.pointer (some ⟨p, 0, none⟩), .slice (some ⟨X, o, none⟩) b.length ac] W fun e w' => e = .returned (.tuple #[]) ∧ RdDone w W w' p 76 [x, y] s.ms.length R wo wc (feedF s b) := by
  obtain ⟨L, hL⟩ : ∃ L, L = b.length := ⟨_, rfl⟩
  obtain ⟨r, hr⟩ : ∃ r, r = feedF s b := ⟨_, rfl⟩
  have HX : Hid (X < W.heap.size ∧ ¬ RIs p s.ms.length R wo wc X) := by
    refine ⟨?_, hsep⟩
    obtain ⟨b', o', e', hc⟩ := hb hne
    cases e'
    exact block_lt_of_cell (hc 0 (List.length_pos_iff.2 hne))
  have HS0 : Hid (∃ s' R' wo' wc' rest fuel, Fd w W W p x y s.ms.length R wo wc r X o L s.e s' R' wo' wc' rest fuel) := by
    refine ⟨s, R, wo, wc, b, b.length, From.refl h, hL.symm, hb, ?_⟩
    rcases hok with q | ⟨q1, q2⟩
    · exact .inr ⟨q, by rw [hr]; unfold feedF; rw [if_pos q]⟩
    · exact .inl ⟨q1.e0, q1, q2, by omega, by rw [hr]; unfold feedF; rw [if_neg (by rw [q1.e0]; simp)], by omega⟩
  have c11 : W.cell? ⟨p, 11, none⟩ = some (.int .i64 s.e) := h.cells rfl
  rw [← hL] at hac hlen ⊢
  rw [← hr]
  obtain ⟨se, hse⟩ : ∃ se, se = s.e := ⟨_, rfl⟩
  rw [← hse] at c11 HS0
  clear h hb hne hsep hms hok hL hr hse
  go_enter Try.func40, Try.ntmps40
  go_wp2_with fail
  go_step3
  go_wp2_with fail
  go_step3
  go_wp2_with fail
  clear c11
  go_loopw [1, 4] (fun v q wr => ∃ (o' n bc : Nat) (e' : Int), v = .slice (some ⟨X, o', none⟩) n bc ∧ q = .int .i64 e' ∧ n ≤ bc ∧ n ≤ 140737488355000 ∧ bc ≤ 9223372036854775807 ∧ Hid (∃ s' R' wo' wc' rest fuel, Fd w W wr p x y s.ms.length R wo wc r X o' n e' s' R' wo' wc' rest fuel)) (fun v _ _ => mLen v)
  case atStart => exact ⟨o, L, ac, se, rfl, rfl, hac, hlen, hacm, HS0.out⟩
  case round =>
    obtain ⟨o', n, bc, e', rfl, rfl, hnb, hn, hbc, HI⟩ := hrel
    clear HS0 hac hlen hacm
    obtain ⟨s', R', wo', wc', rest, fuel, hF⟩ := HI.out
    have HF := hidM hF
    clear HI hF
    by_cases ce : e' = 0
    rotate_left
    · have ceI : (e' == 0) = false := by simpa using ce
      have ceJ : (e' != 0) = true := by simpa using ce
      have HRr : Hid (r = wrongF s' e') := by
        rcases HF.out.go with q | q
        · exact absurd q.1 ce
        · exact q.2
      have HRd := hidM HF.out.fr
      have c10 : wr.cell? ⟨p, 10, none⟩ = some (.slice wo' s'.ms.length wc') := HRd.out.rd.cells rfl
      have hbx := HRd.out.rd.box
      go_wp2_with (with_reducible show wpList Try.prog _ _ (Oper.mk none (Op.store 73 _ _) _ _ _ _ :: _) _ _; refine Hid.out ?_)
      unfold Hid
      refine wpList_store_row rfl 73 (.tmp 138) (.tmp 137) rfl p (wrongCells s'.ms.length e' wo' wc').toArray hbx (by rfl) (by rfl) (by simp [wrongCells, scCells]) (by kernel_rfl) (by simp [wrongCells, Value.oneCell']) ?_
      obtain ⟨VE, hVE⟩ : ∃ VE, VE = wr.setRow p ((wrongCells s'.ms.length e' wo' wc').toArray.toList ++ (scCells s' R' wo' wc' ++ [x, y]).toArray.toList.drop (wrongCells s'.ms.length e' wo' wc').toArray.size).toArray := ⟨_, rfl⟩
      rw [← hVE]
      have hbE : VE.heap[p]? = some (.cells (wrongCells s'.ms.length e' wo' wc' ++ [x, y]).toArray 76 (0, 0)) := by rw [hVE]; exact setRow_heap wr p _ _ 76 (0, 0) hbx
      have hkE : Keeps wr VE (fun g => g = p) := by rw [hVE]; exact ⟨rfl, rfl, rfl, by simp, fun kk hk hn => setRow_other wr p kk _ hn⟩
      obtain ⟨RE, woE, wcE, hFE⟩ := HRd.out.then (s2 := wrongF s' e') ⟨_, _, _, HRd.out.rd.rb.wrong hbE hkE, hkE.mono fun g _ e => .inl e, fun g e => .inl (begin_sub e)⟩
      have HFE := hidM hFE.done
      clear hVE hbE hkE hFE hbx c10 HRd
      go_wp2_with fail
      refine bodyPost_end (v := .tuple #[]) ?_ rfl ⟨rfl, by rw [HRr.out]; exact HFE.out⟩
      simp [results, Try.f40, go_sem]
    have ceI : (e' == 0) = true := by simpa using ce
    have ceJ : (e' != 0) = false := by simpa using ce
    have HGo : Hid (PreOk s' ∧ 0 < s'.left ∧ n ≤ fuel ∧ r = takeF fuel s' rest ∧ s'.ms.length + n ≤ 100000000000) := by
      rcases HF.out.go with q | q
      · exact q.2
      · exact absurd ce q.1
    subst ce
    by_cases cn : n = 0
    · have cnI : ¬ (0 < (n : Int)) := by omega
      have HRr : Hid (r = s') := by
        show _ = _
        have : rest = [] := List.eq_nil_of_length_eq_zero (by rw [HF.out.len]; exact cn)
        rw [HGo.out.2.2.2.1, this, takeF_nil]
      have HD := hidM HF.out.fr.done
      clear HF cn
      go_wp2_with fail
      refine bodyPost_end (v := .tuple #[]) ?_ rfl ⟨rfl, by rw [HRr.out]; exact HD.out⟩
      simp [results, Try.f40, go_sem]
    have cnI : 0 < (n : Int) := by omega
    have c3 : wr.cell? ⟨p, 3, none⟩ = some (.int .i64 (s'.left : Int)) := HF.out.fr.rd.cells rfl
    have c2 : wr.cell? ⟨p, 2, none⟩ = some (.int .i64 (s'.st : Int)) := HF.out.fr.rd.cells rfl
    obtain ⟨lf, hlf⟩ : ∃ lf, lf = s'.left := ⟨_, rfl⟩
    rw [← hlf] at c3
    have HLf := hidM hlf
    obtain ⟨k, hk⟩ : ∃ k, k = min lf n := ⟨_, rfl⟩
    have hk1 : 1 ≤ k := by have := HGo.out.2.1; omega
    have hkn : k ≤ n := by omega
    have hmin : (if (n : Int) < (lf : Int) then (n : Int) else (lf : Int)) = (k : Int) := by split <;> omega
    have hmin2 : (if n < lf then (n : Int) else (lf : Int)) = (k : Int) := by split <;> omega
    have HKm := hidM hk
    clear hlf hk
    obtain ⟨q, hq⟩ : ∃ q, q = rest.take k := ⟨_, rfl⟩
    have hql : q.length = k := by rw [hq, List.length_take, HF.out.len]; omega
    have HQl := hidM hql
    have HB : Hid (∀ V, Keeps W V (RIs p s.ms.length R wo wc) → BytesAt V (some ⟨X, o', none⟩) q) := fun V kk => by
      rw [hq]
      exact ((HF.out.bytes.keep kk (fun X' o2 e => by cases e; exact HX.out.2))).take k
    obtain ⟨f, rfl⟩ : ∃ f, fuel = f + 1 := ⟨fuel - 1, by have := HGo.out.2.2.1; omega⟩
    have HT : Hid (r = if (pieceF s' q).1 ≠ 0 then wrongF (pieceF s' q).2 (pieceF s' q).1 else if (forwardF 10 { (pieceF s' q).2 with left := (pieceF s' q).2.left - k }).1 ≠ 0 then wrongF (forwardF 10 { (pieceF s' q).2 with left := (pieceF s' q).2.left - k }).2 (forwardF 10 { (pieceF s' q).2 with left := (pieceF s' q).2.left - k }).1 else takeF f (forwardF 10 { (pieceF s' q).2 with left := (pieceF s' q).2.left - k }).2 (rest.drop k)) := by
      show _ = _
      rw [HGo.out.2.2.2.1]
      show takeF (f + 1) s' rest = _
      rw [takeF, if_neg (fun e => by have := HF.out.len; rw [e] at this; simp at this; omega), HF.out.len, ← HLf.out, ← HKm.out, hq]
    have HSrc : Hid (∀ V, Keeps W V (RIs p s.ms.length R wo wc) → Src Try.prog 1 22 (.slice (some ⟨X, o', none⟩) k bc) k (bv q) V) := fun V kk => by
      have := src_all (ca := bc) (HB.out V kk)
      rw [hql] at this
      exact this
    clear hq hql
    obtain ⟨z, hz⟩ : ∃ z, z = lf - k := ⟨_, rfl⟩
    have hkl : k ≤ lf := by have := HKm.out; omega
    have hzI : (lf : Int) - (k : Int) = (z : Int) := by omega
    have hlfb : lf ≤ 100000000 := by
      have h1 := HGo.out.1.lf
      rw [HLf.out]
      exact h1
    have HZ := hidM hz
    clear hz
    have hk0 : (0 : Int) ≤ (k : Int) := by omega
    have hkI : (k : Int) ≤ (n : Int) := by omega
    have hkc : (k : Int) ≤ (bc : Int) := by omega
    -- behind a piece that is right
    have HNext : Hid (∀ V1 s1 R1 wo1 wc1, From w W V1 p 76 [x, y] s.ms.length R wo wc s1 R1 wo1 wc1 → pieceF s' q = (0, s1) →
        V1.cell? ⟨p, 3, none⟩ = some (.int .i64 (lf : Int)) ∧ V1.frozen? ⟨p, 3, none⟩ = false ∧
        Calls Try.prog 53 #[.pointer (some ⟨p, 0, none⟩)] (V1.setCell ⟨p, 3, none⟩ (.int .i64 (z : Int))) fun e V3 => ∃ e3, e = .returned (.int .i64 e3) ∧ ∃ s3 R3 wo3 wc3, From w W V3 p 76 [x, y] s.ms.length R wo wc s3 R3 wo3 wc3 ∧ ((e3 = 0 ∧ PreOk s3 ∧ 0 < s3.left ∧ n - k ≤ f ∧ r = takeF f s3 (rest.drop k) ∧ s3.ms.length + (n - k) ≤ 100000000000) ∨ (e3 ≠ 0 ∧ r = wrongF s3 e3))) := fun V1 s1 R1 wo1 wc1 hF1 hp => by
      obtain ⟨a1, a2, a3, a4, a5⟩ := piece_ok (q := q) HGo.out.1 (by rw [HQl.out, ← HLf.out]; exact hkl) (by rw [hp])
      rw [hp] at a2 a3 a4 a5
      have a3' : s1.left = s'.left := a3
      have a4' : s1.ms = s'.ms := a4
      have a5' : s1.st = s'.st := a5
      have t3 := hF1.rd.cells (j := 3) (v := .int .i64 (s1.left : Int)) rfl
      rw [a3', ← HLf.out] at t3
      have hs2 : ({ s1 with left := s1.left - q.length } : Sc) = { s1 with left := z } := by rw [a3', HQl.out, ← HLf.out, HZ.out]
      have a2' : PreOk { s1 with left := z } := by rw [← hs2]; exact a2
      have hF2 : From w W (V1.setCell ⟨p, 3, none⟩ (.int .i64 (z : Int))) p 76 [x, y] s.ms.length R wo wc { s1 with left := z } R1 wo1 wc1 := hF1.set (j := 3) rfl rfl (fun _ => rfl)
      refine ⟨t3, frz hF1.rd.box 3, ?_⟩
      have hm := HGo.out.2.2.2.2
      refine (forward_any hF2.rd (a2'.fw (by show s1.st ≤ 8; omega) (by show s1.ms.length ≤ _; rw [a4']; omega)) 10 (by show 9 ≤ 10 + s1.st; omega)).mono ?_
      rintro e V3 ⟨rfl, hD⟩
      obtain ⟨R3, wo3, wc3, hF3⟩ := hF2.then hD
      refine ⟨_, rfl, _, R3, wo3, wc3, hF3, ?_⟩
      have hT := HT.out
      rw [hp] at hT
      have hs3 : ({ ((0 : Int), s1).2 with left := ((0 : Int), s1).2.left - k } : Sc) = { s1 with left := z } := by
        show ({ s1 with left := s1.left - k } : Sc) = _
        rw [a3', ← HLf.out, HZ.out]
      rw [hs3, if_neg (by simp)] at hT
      by_cases c : (forwardF 10 { s1 with left := z }).1 = 0
      · obtain ⟨d1, d2, d3⟩ := forward_ok 10 { s1 with left := z } a2' (by show s1.st ≤ 8; omega) (by show 9 ≤ 10 + s1.st; omega) c
        rw [if_neg (by simpa using c)] at hT
        refine .inl ⟨c, d1, d2, by have := HGo.out.2.2.1; omega, hT, ?_⟩
        have d3' : (forwardF 10 { s1 with left := z }).2.ms.length ≤ s1.ms.length + 1 := d3
        have d4 : s1.ms.length = s'.ms.length := by rw [a4']
        omega
      · rw [if_pos (by simpa using c)] at hT
        exact .inr ⟨c, hT⟩
    have HRl : Hid (∀ V3 e3 s3 R3 wo3 wc3, From w W V3 p 76 [x, y] s.ms.length R wo wc s3 R3 wo3 wc3 → ((e3 = 0 ∧ PreOk s3 ∧ 0 < s3.left ∧ n - k ≤ f ∧ r = takeF f s3 (rest.drop k) ∧ s3.ms.length + (n - k) ≤ 100000000000) ∨ (e3 ≠ 0 ∧ r = wrongF s3 e3)) → (∃ s' R' wo' wc' rest fuel, Fd w W V3 p x y s.ms.length R wo wc r X (o' + k) (n - k) e3 s' R' wo' wc' rest fuel) ∧ (bc = k → ∃ s' R' wo' wc' rest fuel, Fd w W V3 p x y s.ms.length R wo wc r X o' (n - k) e3 s' R' wo' wc' rest fuel)) := fun V3 e3 s3 R3 wo3 wc3 hF3 hg => by
      have hl : (rest.drop k).length = n - k := by rw [List.length_drop, HF.out.len]
      refine ⟨⟨s3, R3, wo3, wc3, rest.drop k, f, hF3, hl, ?_, hg⟩, fun e => ⟨s3, R3, wo3, wc3, rest.drop k, f, hF3, hl, fun hn => ?_, hg⟩⟩
      · intro hn
        obtain ⟨b', o2, e', hc⟩ := HF.out.bytes (fun e => by rw [e] at hn; simp at hn)
        cases e'
        refine ⟨X, o' + k, rfl, fun i hi => ?_⟩
        have := hc (k + i) (by rw [List.length_drop] at hi; omega)
        rw [List.getElem_drop, Nat.add_assoc]
        exact this
      · have : (rest.drop k).length = 0 := by rw [hl]; omega
        exact absurd (List.eq_nil_of_length_eq_zero this) hn
    have HErr : Hid (∀ pe s1, pieceF s' q = (pe, s1) → pe ≠ 0 → r = wrongF s1 pe) := fun pe s1 hp hne => by
      have hT := HT.out
      rw [hp, if_pos hne] at hT
      exact hT
    have HFr := hidM HF.out.fr
    have HPre := hidM HGo.out.1
    clear HF HGo HKm HT HZ
    obtain ⟨st, hst⟩ : ∃ st, st = s'.st := ⟨_, rfl⟩
    rw [← hst] at c2
    have hst9 : st ≤ 9 := by rw [hst]; exact HPre.out.st9
    have HSt := hidM hst
    clear hst
    match st, hst9 with
    | 0, _ =>
      have hri := HFr.out.rd.rows 0 (by omega)
      obtain ⟨ho, hn0, hc0, hR0⟩ : ∃ ho n hc, R' 0 = (ho, n, hc) := ⟨_, _, _, rfl⟩
      have c4 : wr.cell? ⟨p, 4, none⟩ = some (.slice ho hn0 hc0) := by have := HFr.out.rd.cells (j := 4) (v := rv (R' 0)) rfl; rw [hR0] at this; exact this
      rw [hR0] at hri
      have hhl : s'.hd.length = hn0 := by
        have h1 := hri.1
        rw [bv_len] at h1
        have h1' : s'.hd.length = hn0 * 1 := h1
        omega
      have hhn : hn0 ≤ 100000000 := by
        have h2 := HPre.out.h0 HSt.out.symm
        have h3 := HPre.out.lm
        have h4 := HPre.out.lb
        have h5 := HPre.out.me
        have h6 := HPre.out.bo
        omega
      have HHn := hidM hhl
      have HRi := hidM hri
      have HR0 := hidM hR0
      clear hri hR0 hhl
      go_wp2_with (at_builtin; refine Hid.out ?_)
      unfold Hid
      refine wpList_append_any _ rfl (.tmp 36) (.tmp 37) 22 22 rfl 5 (.int .u8 0) 1 Try.underlying22 info5 rfl (.slice ho hn0 hc0) hn0 _ rfl HRi.out _ k (bv q) rfl (HSrc.out _ HFr.out.kp) (by omega) (by omega) ?_
      intro v' V0 hown hgrow hblk
      obtain ⟨ho1, hc1, rfl⟩ := own_form1 hown
      obtain ⟨hb0, hD0, -⟩ := HFr.out.rd.app (i := 0) (ci := 4) (k := k) (q := q) (s' := { s' with hd := s'.hd ++ q }) (by omega) HR0.out hown hgrow hblk rfl rfl (fun j => by unfold Sc.row; by_cases c : j = 0 <;> simp [c])
      have HBy : Hid (BytesAt (V0.setCell ⟨p, 4, none⟩ (.slice ho1 (hn0 + k) hc1)) ho1 (s'.hd ++ q)) := by
        have h1 := hown
        have e1 : bv (s'.row 0) ++ bv q = bv (s'.hd ++ q) := by rw [bv_app]; rfl
        rw [e1] at h1
        exact (bytes_of_own h1).keep (Keeps.setCell (S := fun g => g = p) (p := ⟨p, 4, none⟩) (Keeps.refl V0 _) (fun _ => rfl) _) (fun X' o2 e => fun z => by
          subst z
          have t1 := own_typ h1 (g := X') (by rw [e]; rfl)
          have t2 : Typ V0 X' 76 := ⟨_, _, hb0⟩
          exact absurd (t1.ne t2) (by decide))
      have t5 : (V0.setCell ⟨p, 4, none⟩ (.slice ho1 (hn0 + k) hc1)).cell? ⟨p, 4, none⟩ = some (.slice ho1 (hn0 + k) hc1) := by simp [World.cell?, heap_setCell_same V0 p 4 _ 76 _ hb0, scCells]
      have t4 : V0.cell? ⟨p, 4, none⟩ = some (rv (R' 0)) := by simp [World.cell?, hb0, scCells]
      rw [HR0.out] at t4
      have t4' : V0.cell? ⟨p, 4, none⟩ = some (.slice ho hn0 hc0) := t4
      have f4 : V0.frozen? ⟨p, 4, none⟩ = false := frz hb0 4
      obtain ⟨R1, wo1, wc1, hF1⟩ := HFr.out.then hD0
      have HF1 := hidM hF1
      clear hown hgrow hblk hb0 hD0 hF1 t4 c4 HRi HFr HSrc c3
      have HPp : Hid (pieceF s' q = (if marksB (s'.hd ++ q) = true then 0 else 70, { s' with hd := s'.hd ++ q })) := by
        show _ = _
        unfold pieceF
        rw [if_pos HSt.out.symm]
      have hbs : BytesAt (V0.setCell ⟨p, 4, none⟩ (.slice ho1 (hn0 + k) hc1)) ho1 (s'.hd ++ q) := HBy.out
      have hsl : (s'.hd ++ q).length = hn0 + k := by rw [List.length_append, HQl.out, HHn.out]
      have hcv : (convert 22 9 (.slice ho1 (hn0 + k) hc1)).run Try.prog (V0.setCell ⟨p, 4, none⟩ (.slice ho1 (hn0 + k) hc1)) = .ok (.string ⟨(s'.hd ++ q).toArray⟩) (V0.setCell ⟨p, 4, none⟩ (.slice ho1 (hn0 + k) hc1)) := by
        have := bytes_string (vc := hc1) hbs
        rw [hsl] at this
        exact this
      obtain ⟨S, hS⟩ : ∃ S : ByteArray, S = ⟨(s'.hd ++ q).toArray⟩ := ⟨_, rfl⟩
      have HM := hidM (marks_any (s'.hd ++ q) (V0.setCell ⟨p, 4, none⟩ (.slice ho1 (hn0 + k) hc1)) (by rw [hsl]; have h2 := HPre.out.h0 HSt.out.symm; have h3 := HLf.out; have h4 := HHn.out; omega))
      rw [← hS] at hcv HM
      clear hS hbs hsl
      cases hmk : marksB (s'.hd ++ q) with
      | false =>
        rw [hmk] at HM HPp
        have HRr : Hid (r = wrongF { s' with hd := s'.hd ++ q } 70) := HErr.out 70 _ HPp.out (by decide)
        clear hmk
        go_wp2_with (go_at_call 51; refine Hid.out ?_)
        unfold Hid
        refine Calls.mono HM.out ?_
        rintro e VM ⟨rfl, rfl⟩
        clear t5 hcv t4'
        have HRd := hidM HF1.out
        have c10 : (V0.setCell ⟨p, 4, none⟩ (.slice ho1 (hn0 + k) hc1)).cell? ⟨p, 10, none⟩ = some (.slice wo1 ({ s' with hd := s'.hd ++ q } : Sc).ms.length wc1) := HRd.out.rd.cells rfl
        have hbx := HRd.out.rd.box
        go_wp2_with (with_reducible show wpList Try.prog _ _ (Oper.mk none (Op.store 73 _ _) _ _ _ _ :: _) _ _; refine Hid.out ?_)
        unfold Hid
        refine wpList_store_row rfl 73 (.tmp 138) (.tmp 137) rfl p (wrongCells ({ s' with hd := s'.hd ++ q } : Sc).ms.length 70 wo1 wc1).toArray hbx (by rfl) (by rfl) (by simp [wrongCells, scCells]) (by kernel_rfl) (by simp [wrongCells, Value.oneCell']) ?_
        obtain ⟨VE, hVE⟩ : ∃ VE, VE = (V0.setCell ⟨p, 4, none⟩ (.slice ho1 (hn0 + k) hc1)).setRow p ((wrongCells ({ s' with hd := s'.hd ++ q } : Sc).ms.length 70 wo1 wc1).toArray.toList ++ (scCells ({ s' with hd := s'.hd ++ q } : Sc) R1 wo1 wc1 ++ [x, y]).toArray.toList.drop (wrongCells ({ s' with hd := s'.hd ++ q } : Sc).ms.length 70 wo1 wc1).toArray.size).toArray := ⟨_, rfl⟩
        rw [← hVE]
        have hbE : VE.heap[p]? = some (.cells (wrongCells ({ s' with hd := s'.hd ++ q } : Sc).ms.length 70 wo1 wc1 ++ [x, y]).toArray 76 (0, 0)) := by rw [hVE]; exact setRow_heap (V0.setCell ⟨p, 4, none⟩ (.slice ho1 (hn0 + k) hc1)) p _ _ 76 (0, 0) hbx
        have hkE : Keeps (V0.setCell ⟨p, 4, none⟩ (.slice ho1 (hn0 + k) hc1)) VE (fun g => g = p) := by rw [hVE]; exact ⟨rfl, rfl, rfl, by simp, fun kk hk hn => setRow_other (V0.setCell ⟨p, 4, none⟩ (.slice ho1 (hn0 + k) hc1)) p kk _ hn⟩
        obtain ⟨RE, woE, wcE, hFE⟩ := HRd.out.then (s2 := wrongF ({ s' with hd := s'.hd ++ q } : Sc) 70) ⟨_, _, _, HRd.out.rd.rb.wrong hbE hkE, hkE.mono fun g _ e => .inl e, fun g e => .inl (begin_sub e)⟩
        have HFE := hidM hFE.done
        clear hVE hbE hkE hFE hbx c10 HRd
        go_wp2_with fail
        refine bodyPost_end (v := .tuple #[]) ?_ rfl ⟨rfl, by rw [HRr.out]; exact HFE.out⟩
        simp [results, Try.f40, go_sem]
      | true =>
        rw [hmk] at HM HPp
        have HPq : Hid (pieceF s' q = (0, { s' with hd := s'.hd ++ q })) := HPp.out
        clear hmk HPp
        obtain ⟨n3, n3f, n5⟩ := HNext.out (V0.setCell ⟨p, 4, none⟩ (.slice ho1 (hn0 + k) hc1)) _ R1 wo1 wc1 HF1.out HPq.out
        have HN5 := hidM n5
        clear n5 HNext
        go_wp2_with (go_at_call 51; refine Hid.out ?_)
        unfold Hid
        refine Calls.mono HM.out ?_
        rintro e VM ⟨rfl, rfl⟩
        by_cases hbk : bc = k
        · have hnk : n = k := by omega
          have HBk := hidM hbk
          subst hbk
          subst hnk
          go_wp2_with (go_at_call 53; refine Hid.out ?_)
          unfold Hid
          refine Calls.mono HN5.out ?_
          rintro e V3 ⟨e3, rfl, s3, R3, wo3, wc3, hF3, hg3⟩
          have HRn := hidM ((HRl.out V3 e3 s3 R3 wo3 wc3 hF3 hg3).2 (by first | rfl | trivial))
          clear hF3 hg3 n3 n3f
          go_wp2_with fail
          go_roundw
          case rel => exact ⟨o', _, _, e3, rfl, rfl, by omega, by omega, by omega, by have h9 := HRn.out; unfold Hid; simpa using h9⟩
          case measure => simp [mLen]; omega
        go_wp2_with (go_at_call 53; refine Hid.out ?_)
        unfold Hid
        refine Calls.mono HN5.out ?_
        rintro e V3 ⟨e3, rfl, s3, R3, wo3, wc3, hF3, hg3⟩
        have HRn := hidM (HRl.out V3 e3 s3 R3 wo3 wc3 hF3 hg3).1
        clear hF3 hg3 n3 n3f
        go_wp2_with fail
        go_roundw
        case rel => exact ⟨o' + k, n - k, bc - k, e3, rfl, rfl, by omega, by omega, by omega, HRn.out⟩
        case measure => simp [mLen]; omega
    | 1, _ =>
      have hri := HFr.out.rd.rows 0 (by omega)
      obtain ⟨ho, hn0, hc0, hR0⟩ : ∃ ho n hc, R' 0 = (ho, n, hc) := ⟨_, _, _, rfl⟩
      have c4 : wr.cell? ⟨p, 4, none⟩ = some (.slice ho hn0 hc0) := by have := HFr.out.rd.cells (j := 4) (v := rv (R' 0)) rfl; rw [hR0] at this; exact this
      rw [hR0] at hri
      have hhn : hn0 ≤ 1000 := by
        have h1 := hri.1
        rw [bv_len] at h1
        have h1' : s'.hd.length = hn0 * 1 := h1
        have h2 := HPre.out.h1 HSt.out.symm
        omega
      have HRi := hidM hri
      have HR0 := hidM hR0
      clear hri hR0
      go_wp2_with (at_builtin; refine Hid.out ?_)
      unfold Hid
      refine wpList_append_any _ rfl (.tmp 56) (.tmp 57) 22 22 rfl 5 (.int .u8 0) 1 Try.underlying22 info5 rfl (.slice ho hn0 hc0) hn0 _ rfl HRi.out _ k (bv q) rfl (HSrc.out _ HFr.out.kp) (by omega) (by omega) ?_
      intro v' V0 hown hgrow hblk
      obtain ⟨ho1, hc1, rfl⟩ := own_form1 hown
      obtain ⟨hb0, hD0, -⟩ := HFr.out.rd.app (i := 0) (ci := 4) (k := k) (q := q) (s' := { s' with hd := s'.hd ++ q }) (by omega) HR0.out hown hgrow hblk rfl rfl (fun j => by unfold Sc.row; by_cases c : j = 0 <;> simp [c])
      have t4 : V0.cell? ⟨p, 4, none⟩ = some (rv (R' 0)) := by simp [World.cell?, hb0, scCells]
      rw [HR0.out] at t4
      have t4' : V0.cell? ⟨p, 4, none⟩ = some (.slice ho hn0 hc0) := t4
      have f4 : V0.frozen? ⟨p, 4, none⟩ = false := frz hb0 4
      obtain ⟨R1, wo1, wc1, hF1⟩ := HFr.out.then hD0
      have HF1 := hidM hF1
      have HPp : Hid (pieceF s' q = (0, { s' with hd := s'.hd ++ q })) := by
        show _ = _
        unfold pieceF
        rw [if_neg (by rw [← HSt.out]; omega), if_pos (by rw [← HSt.out]; omega)]
      clear hown hgrow hblk hb0 hD0 hF1 t4 c4 HRi HFr HSrc c3
      obtain ⟨n3, n3f, n5⟩ := HNext.out (V0.setCell ⟨p, 4, none⟩ (.slice ho1 (hn0 + k) hc1)) _ R1 wo1 wc1 HF1.out HPp.out
      have HN5 := hidM n5
      clear n5 HNext
      by_cases hbk : bc = k
      · have hnk : n = k := by omega
        have HBk := hidM hbk
        subst hbk
        subst hnk
        go_wp2_with (go_at_call 53; refine Hid.out ?_)
        unfold Hid
        refine Calls.mono HN5.out ?_
        rintro e V3 ⟨e3, rfl, s3, R3, wo3, wc3, hF3, hg3⟩
        have HRn := hidM ((HRl.out V3 e3 s3 R3 wo3 wc3 hF3 hg3).2 (by first | rfl | trivial))
        clear hF3 hg3 n3 n3f
        go_wp2_with fail
        go_roundw
        case rel => exact ⟨o', _, _, e3, rfl, rfl, by omega, by omega, by omega, by have h9 := HRn.out; unfold Hid; simpa using h9⟩
        case measure => simp [mLen]; omega
      go_wp2_with (go_at_call 53; refine Hid.out ?_)
      unfold Hid
      refine Calls.mono HN5.out ?_
      rintro e V3 ⟨e3, rfl, s3, R3, wo3, wc3, hF3, hg3⟩
      have HRn := hidM (HRl.out V3 e3 s3 R3 wo3 wc3 hF3 hg3).1
      clear hF3 hg3 n3 n3f
      go_wp2_with fail
      go_roundw
      case rel => exact ⟨o' + k, n - k, bc - k, e3, rfl, rfl, by omega, by omega, by omega, HRn.out⟩
      case measure => simp [mLen]; omega
    | 2, _ =>
      have hri := HFr.out.rd.rows 0 (by omega)
      obtain ⟨ho, hn0, hc0, hR0⟩ : ∃ ho n hc, R' 0 = (ho, n, hc) := ⟨_, _, _, rfl⟩
      have c4 : wr.cell? ⟨p, 4, none⟩ = some (.slice ho hn0 hc0) := by have := HFr.out.rd.cells (j := 4) (v := rv (R' 0)) rfl; rw [hR0] at this; exact this
      rw [hR0] at hri
      have hhn : hn0 ≤ 1000 := by
        have h1 := hri.1
        rw [bv_len] at h1
        have h1' : s'.hd.length = hn0 * 1 := h1
        have h2 := HPre.out.h2 HSt.out.symm
        omega
      have HRi := hidM hri
      have HR0 := hidM hR0
      clear hri hR0
      go_wp2_with (at_builtin; refine Hid.out ?_)
      unfold Hid
      refine wpList_append_any _ rfl (.tmp 56) (.tmp 57) 22 22 rfl 5 (.int .u8 0) 1 Try.underlying22 info5 rfl (.slice ho hn0 hc0) hn0 _ rfl HRi.out _ k (bv q) rfl (HSrc.out _ HFr.out.kp) (by omega) (by omega) ?_
      intro v' V0 hown hgrow hblk
      obtain ⟨ho1, hc1, rfl⟩ := own_form1 hown
      obtain ⟨hb0, hD0, -⟩ := HFr.out.rd.app (i := 0) (ci := 4) (k := k) (q := q) (s' := { s' with hd := s'.hd ++ q }) (by omega) HR0.out hown hgrow hblk rfl rfl (fun j => by unfold Sc.row; by_cases c : j = 0 <;> simp [c])
      have t4 : V0.cell? ⟨p, 4, none⟩ = some (rv (R' 0)) := by simp [World.cell?, hb0, scCells]
      rw [HR0.out] at t4
      have t4' : V0.cell? ⟨p, 4, none⟩ = some (.slice ho hn0 hc0) := t4
      have f4 : V0.frozen? ⟨p, 4, none⟩ = false := frz hb0 4
      obtain ⟨R1, wo1, wc1, hF1⟩ := HFr.out.then hD0
      have HF1 := hidM hF1
      have HPp : Hid (pieceF s' q = (0, { s' with hd := s'.hd ++ q })) := by
        show _ = _
        unfold pieceF
        rw [if_neg (by rw [← HSt.out]; omega), if_pos (by rw [← HSt.out]; omega)]
      clear hown hgrow hblk hb0 hD0 hF1 t4 c4 HRi HFr HSrc c3
      obtain ⟨n3, n3f, n5⟩ := HNext.out (V0.setCell ⟨p, 4, none⟩ (.slice ho1 (hn0 + k) hc1)) _ R1 wo1 wc1 HF1.out HPp.out
      have HN5 := hidM n5
      clear n5 HNext
      by_cases hbk : bc = k
      · have hnk : n = k := by omega
        have HBk := hidM hbk
        subst hbk
        subst hnk
        go_wp2_with (go_at_call 53; refine Hid.out ?_)
        unfold Hid
        refine Calls.mono HN5.out ?_
        rintro e V3 ⟨e3, rfl, s3, R3, wo3, wc3, hF3, hg3⟩
        have HRn := hidM ((HRl.out V3 e3 s3 R3 wo3 wc3 hF3 hg3).2 (by first | rfl | trivial))
        clear hF3 hg3 n3 n3f
        go_wp2_with fail
        go_roundw
        case rel => exact ⟨o', _, _, e3, rfl, rfl, by omega, by omega, by omega, by have h9 := HRn.out; unfold Hid; simpa using h9⟩
        case measure => simp [mLen]; omega
      go_wp2_with (go_at_call 53; refine Hid.out ?_)
      unfold Hid
      refine Calls.mono HN5.out ?_
      rintro e V3 ⟨e3, rfl, s3, R3, wo3, wc3, hF3, hg3⟩
      have HRn := hidM (HRl.out V3 e3 s3 R3 wo3 wc3 hF3 hg3).1
      clear hF3 hg3 n3 n3f
      go_wp2_with fail
      go_roundw
      case rel => exact ⟨o' + k, n - k, bc - k, e3, rfl, rfl, by omega, by omega, by omega, HRn.out⟩
      case measure => simp [mLen]; omega
    | 3, _ =>
      have hri := HFr.out.rd.rows 0 (by omega)
      obtain ⟨ho, hn0, hc0, hR0⟩ : ∃ ho n hc, R' 0 = (ho, n, hc) := ⟨_, _, _, rfl⟩
      have c4 : wr.cell? ⟨p, 4, none⟩ = some (.slice ho hn0 hc0) := by have := HFr.out.rd.cells (j := 4) (v := rv (R' 0)) rfl; rw [hR0] at this; exact this
      rw [hR0] at hri
      have hhn : hn0 ≤ 1000 := by
        have h1 := hri.1
        rw [bv_len] at h1
        have h1' : s'.hd.length = hn0 * 1 := h1
        have h2 := HPre.out.h3 HSt.out.symm
        omega
      have HRi := hidM hri
      have HR0 := hidM hR0
      clear hri hR0
      go_wp2_with (at_builtin; refine Hid.out ?_)
      unfold Hid
      refine wpList_append_any _ rfl (.tmp 56) (.tmp 57) 22 22 rfl 5 (.int .u8 0) 1 Try.underlying22 info5 rfl (.slice ho hn0 hc0) hn0 _ rfl HRi.out _ k (bv q) rfl (HSrc.out _ HFr.out.kp) (by omega) (by omega) ?_
      intro v' V0 hown hgrow hblk
      obtain ⟨ho1, hc1, rfl⟩ := own_form1 hown
      obtain ⟨hb0, hD0, -⟩ := HFr.out.rd.app (i := 0) (ci := 4) (k := k) (q := q) (s' := { s' with hd := s'.hd ++ q }) (by omega) HR0.out hown hgrow hblk rfl rfl (fun j => by unfold Sc.row; by_cases c : j = 0 <;> simp [c])
      have t4 : V0.cell? ⟨p, 4, none⟩ = some (rv (R' 0)) := by simp [World.cell?, hb0, scCells]
      rw [HR0.out] at t4
      have t4' : V0.cell? ⟨p, 4, none⟩ = some (.slice ho hn0 hc0) := t4
      have f4 : V0.frozen? ⟨p, 4, none⟩ = false := frz hb0 4
      obtain ⟨R1, wo1, wc1, hF1⟩ := HFr.out.then hD0
      have HF1 := hidM hF1
      have HPp : Hid (pieceF s' q = (0, { s' with hd := s'.hd ++ q })) := by
        show _ = _
        unfold pieceF
        rw [if_neg (by rw [← HSt.out]; omega), if_pos (by rw [← HSt.out]; omega)]
      clear hown hgrow hblk hb0 hD0 hF1 t4 c4 HRi HFr HSrc c3
      obtain ⟨n3, n3f, n5⟩ := HNext.out (V0.setCell ⟨p, 4, none⟩ (.slice ho1 (hn0 + k) hc1)) _ R1 wo1 wc1 HF1.out HPp.out
      have HN5 := hidM n5
      clear n5 HNext
      by_cases hbk : bc = k
      · have hnk : n = k := by omega
        have HBk := hidM hbk
        subst hbk
        subst hnk
        go_wp2_with (go_at_call 53; refine Hid.out ?_)
        unfold Hid
        refine Calls.mono HN5.out ?_
        rintro e V3 ⟨e3, rfl, s3, R3, wo3, wc3, hF3, hg3⟩
        have HRn := hidM ((HRl.out V3 e3 s3 R3 wo3 wc3 hF3 hg3).2 (by first | rfl | trivial))
        clear hF3 hg3 n3 n3f
        go_wp2_with fail
        go_roundw
        case rel => exact ⟨o', _, _, e3, rfl, rfl, by omega, by omega, by omega, by have h9 := HRn.out; unfold Hid; simpa using h9⟩
        case measure => simp [mLen]; omega
      go_wp2_with (go_at_call 53; refine Hid.out ?_)
      unfold Hid
      refine Calls.mono HN5.out ?_
      rintro e V3 ⟨e3, rfl, s3, R3, wo3, wc3, hF3, hg3⟩
      have HRn := hidM (HRl.out V3 e3 s3 R3 wo3 wc3 hF3 hg3).1
      clear hF3 hg3 n3 n3f
      go_wp2_with fail
      go_roundw
      case rel => exact ⟨o' + k, n - k, bc - k, e3, rfl, rfl, by omega, by omega, by omega, HRn.out⟩
      case measure => simp [mLen]; omega
    | 4, _ =>
      have HIz : Hid (Calls Try.prog 52 #[.slice (some ⟨X, o', none⟩) k bc] wr fun e w' => e = .returned (.bool (q.all (· == 0))) ∧ wr = w') := by
        have := isZero_any (ca := bc) (HB.out _ HFr.out.kp) (by rw [HQl.out]; omega)
        rw [HQl.out] at this
        exact this
      have HPp : Hid (pieceF s' q = (if q.all (· == 0) = true then 0 else 8, s')) := by
        show _ = _
        have hs : s'.st = 4 := HSt.out.symm
        unfold pieceF
        rw [hs]
        rfl
      cases hmk : q.all (· == 0) with
      | false =>
        rw [hmk] at HIz HPp
        have HRr : Hid (r = wrongF s' 8) := HErr.out 8 _ HPp.out (by decide)
        clear hmk
        go_wp2_with (go_at_call 52; refine Hid.out ?_)
        unfold Hid
        refine Calls.mono HIz.out ?_
        rintro e VM ⟨rfl, rfl⟩
        have HRd := hidM HFr.out
        have c10 : wr.cell? ⟨p, 10, none⟩ = some (.slice wo' s'.ms.length wc') := HRd.out.rd.cells rfl
        have hbx := HRd.out.rd.box
        go_wp2_with (with_reducible show wpList Try.prog _ _ (Oper.mk none (Op.store 73 _ _) _ _ _ _ :: _) _ _; refine Hid.out ?_)
        unfold Hid
        refine wpList_store_row rfl 73 (.tmp 138) (.tmp 137) rfl p (wrongCells s'.ms.length 8 wo' wc').toArray hbx (by rfl) (by rfl) (by simp [wrongCells, scCells]) (by kernel_rfl) (by simp [wrongCells, Value.oneCell']) ?_
        obtain ⟨VE, hVE⟩ : ∃ VE, VE = wr.setRow p ((wrongCells s'.ms.length 8 wo' wc').toArray.toList ++ (scCells s' R' wo' wc' ++ [x, y]).toArray.toList.drop (wrongCells s'.ms.length 8 wo' wc').toArray.size).toArray := ⟨_, rfl⟩
        rw [← hVE]
        have hbE : VE.heap[p]? = some (.cells (wrongCells s'.ms.length 8 wo' wc' ++ [x, y]).toArray 76 (0, 0)) := by rw [hVE]; exact setRow_heap wr p _ _ 76 (0, 0) hbx
        have hkE : Keeps wr VE (fun g => g = p) := by rw [hVE]; exact ⟨rfl, rfl, rfl, by simp, fun kk hk hn => setRow_other wr p kk _ hn⟩
        obtain ⟨RE, woE, wcE, hFE⟩ := HRd.out.then (s2 := wrongF s' 8) ⟨_, _, _, HRd.out.rd.rb.wrong hbE hkE, hkE.mono fun g _ e => .inl e, fun g e => .inl (begin_sub e)⟩
        have HFE := hidM hFE.done
        clear hVE hbE hkE hFE hbx c10 HRd
        go_wp2_with fail
        refine bodyPost_end (v := .tuple #[]) ?_ rfl ⟨rfl, by rw [HRr.out]; exact HFE.out⟩
        simp [results, Try.f40, go_sem]
      | true =>
        rw [hmk] at HIz HPp
        have HPq : Hid (pieceF s' q = (0, s')) := HPp.out
        clear hmk HPp HB HErr
        obtain ⟨n3, n3f, n5⟩ := HNext.out wr _ R' wo' wc' HFr.out HPq.out
        have HN5 := hidM n5
        clear n5 HNext
        go_wp2_with (go_at_call 52; refine Hid.out ?_)
        unfold Hid
        refine Calls.mono HIz.out ?_
        rintro e VM ⟨rfl, rfl⟩
        by_cases hbk : bc = k
        · have hnk : n = k := by omega
          have HBk := hidM hbk
          subst hbk
          subst hnk
          go_wp2_with (go_at_call 53; refine Hid.out ?_)
          unfold Hid
          refine Calls.mono HN5.out ?_
          rintro e V3 ⟨e3, rfl, s3, R3, wo3, wc3, hF3, hg3⟩
          have HRn := hidM ((HRl.out V3 e3 s3 R3 wo3 wc3 hF3 hg3).2 (by first | rfl | trivial))
          clear hF3 hg3 n3 n3f
          go_wp2_with fail
          go_roundw
          case rel => exact ⟨o', _, _, e3, rfl, rfl, by omega, by omega, by omega, by have h9 := HRn.out; unfold Hid; simpa using h9⟩
          case measure => simp [mLen]; omega
        go_wp2_with (go_at_call 53; refine Hid.out ?_)
        unfold Hid
        refine Calls.mono HN5.out ?_
        rintro e V3 ⟨e3, rfl, s3, R3, wo3, wc3, hF3, hg3⟩
        have HRn := hidM (HRl.out V3 e3 s3 R3 wo3 wc3 hF3 hg3).1
        clear hF3 hg3 n3 n3f
        go_wp2_with fail
        go_roundw
        case rel => exact ⟨o' + k, n - k, bc - k, e3, rfl, rfl, by omega, by omega, by omega, HRn.out⟩
        case measure => simp [mLen]; omega
    | 5, _ =>
      have hri := HFr.out.rd.rows 1 (by omega)
      obtain ⟨ho, hn0, hc0, hR0⟩ : ∃ ho n hc, R' 1 = (ho, n, hc) := ⟨_, _, _, rfl⟩
      have c4 : wr.cell? ⟨p, 8, none⟩ = some (.slice ho hn0 hc0) := by have := HFr.out.rd.cells (j := 8) (v := rv (R' 1)) rfl; rw [hR0] at this; exact this
      rw [hR0] at hri
      have hhl : s'.md.length = hn0 := by
        have h1 := hri.1
        rw [bv_len] at h1
        have h1' : s'.md.length = hn0 * 1 := h1
        omega
      have hhn : hn0 ≤ 100000000 := by
        have h2 := HPre.out.m5 HSt.out.symm
        have h3 := HPre.out.lm
        have h4 := HPre.out.lb
        have h5 := HPre.out.me
        have h6 := HPre.out.bo
        omega
      have HHn := hidM hhl
      have HRi := hidM hri
      have HR0 := hidM hR0
      clear hri hR0 hhl
      go_wp2_with (at_builtin; refine Hid.out ?_)
      unfold Hid
      refine wpList_append_any _ rfl (.tmp 68) (.tmp 69) 22 22 rfl 5 (.int .u8 0) 1 Try.underlying22 info5 rfl (.slice ho hn0 hc0) hn0 _ rfl HRi.out _ k (bv q) rfl (HSrc.out _ HFr.out.kp) (by omega) (by omega) ?_
      intro v' V0 hown hgrow hblk
      obtain ⟨ho1, hc1, rfl⟩ := own_form1 hown
      obtain ⟨hb0, hD0, -⟩ := HFr.out.rd.app (i := 1) (ci := 8) (k := k) (q := q) (s' := { s' with md := s'.md ++ q }) (by omega) HR0.out hown hgrow hblk rfl rfl (fun j => by unfold Sc.row; by_cases c : j = 1 <;> simp [c])
      have HBy : Hid (BytesAt (V0.setCell ⟨p, 8, none⟩ (.slice ho1 (hn0 + k) hc1)) ho1 (s'.md ++ q)) := by
        have h1 := hown
        have e1 : bv (s'.row 1) ++ bv q = bv (s'.md ++ q) := by rw [bv_app]; rfl
        rw [e1] at h1
        exact (bytes_of_own h1).keep (Keeps.setCell (S := fun g => g = p) (p := ⟨p, 8, none⟩) (Keeps.refl V0 _) (fun _ => rfl) _) (fun X' o2 e => fun z => by
          subst z
          have t1 := own_typ h1 (g := X') (by rw [e]; rfl)
          have t2 : Typ V0 X' 76 := ⟨_, _, hb0⟩
          exact absurd (t1.ne t2) (by decide))
      have t4 : V0.cell? ⟨p, 8, none⟩ = some (rv (R' 1)) := by simp [World.cell?, hb0, scCells]
      rw [HR0.out] at t4
      have t4' : V0.cell? ⟨p, 8, none⟩ = some (.slice ho hn0 hc0) := t4
      have f4 : V0.frozen? ⟨p, 8, none⟩ = false := frz hb0 8
      obtain ⟨R1, wo1, wc1, hF1⟩ := HFr.out.then hD0
      have HF1 := hidM hF1
      clear hown hgrow hblk hb0 hD0 hF1 t4 c4 HRi HFr HSrc c3
      have t7 : (V0.setCell ⟨p, 8, none⟩ (.slice ho1 (hn0 + k) hc1)).cell? ⟨p, 7, none⟩ = some (.int .u32 (s'.sum.toNat : Int)) := HF1.out.rd.cells rfl
      have f7 : (V0.setCell ⟨p, 8, none⟩ (.slice ho1 (hn0 + k) hc1)).frozen? ⟨p, 7, none⟩ = false := frz HF1.out.rd.box 7
      have HSu : Hid (Calls Try.prog 46 #[.int .u32 (s'.sum.toNat : Int), .slice (some ⟨X, o', none⟩) k bc] (V0.setCell ⟨p, 8, none⟩ (.slice ho1 (hn0 + k) hc1)) fun e w' => e = .returned (.int .u32 ((sumU s'.sum q).toNat : Int)) ∧ (V0.setCell ⟨p, 8, none⟩ (.slice ho1 (hn0 + k) hc1)) = w') := by
        have := sum_any (ca := bc) s'.sum (HB.out _ HF1.out.kp) (by rw [HQl.out]; omega)
        rw [HQl.out] at this
        exact this
      have HF2 : Hid (From w W ((V0.setCell ⟨p, 8, none⟩ (.slice ho1 (hn0 + k) hc1)).setCell ⟨p, 7, none⟩ (.int .u32 ((sumU s'.sum q).toNat : Int))) p 76 [x, y] s.ms.length R wo wc { s' with md := s'.md ++ q, sum := sumU s'.sum q } R1 wo1 wc1) := HF1.out.set (j := 7) rfl rfl (fun _ => rfl)
      have HPp : Hid (pieceF s' q = (0, { s' with md := s'.md ++ q, sum := sumU s'.sum q })) := by
        show _ = _
        have hs : s'.st = 5 := HSt.out.symm
        unfold pieceF
        rw [hs]
        rfl
      obtain ⟨sa, hsa⟩ : ∃ sa : Int, sa = (s'.sum.toNat : Int) := ⟨_, rfl⟩
      obtain ⟨sb, hsb⟩ : ∃ sb : Int, sb = ((sumU s'.sum q).toNat : Int) := ⟨_, rfl⟩
      rw [← hsa] at t7 HSu
      rw [← hsb] at HSu HF2
      clear hsa hsb HF1 HB HErr HBy
      obtain ⟨n3, n3f, n5⟩ := HNext.out ((V0.setCell ⟨p, 8, none⟩ (.slice ho1 (hn0 + k) hc1)).setCell ⟨p, 7, none⟩ (.int .u32 sb)) _ R1 wo1 wc1 HF2.out HPp.out
      have HN5 := hidM n5
      clear n5 HNext
      go_wp2_with (go_at_call 46; refine Hid.out ?_)
      unfold Hid
      refine Calls.mono HSu.out ?_
      rintro e VM ⟨rfl, rfl⟩
      by_cases hbk : bc = k
      · have hnk : n = k := by omega
        have HBk := hidM hbk
        subst hbk
        subst hnk
        go_wp2_with (go_at_call 53; refine Hid.out ?_)
        unfold Hid
        refine Calls.mono HN5.out ?_
        rintro e V3 ⟨e3, rfl, s3, R3, wo3, wc3, hF3, hg3⟩
        have HRn := hidM ((HRl.out V3 e3 s3 R3 wo3 wc3 hF3 hg3).2 (by first | rfl | trivial))
        clear hF3 hg3 n3 n3f
        go_wp2_with fail
        go_roundw
        case rel => exact ⟨o', _, _, e3, rfl, rfl, by omega, by omega, by omega, by have h9 := HRn.out; unfold Hid; simpa using h9⟩
        case measure => simp [mLen]; omega
      go_wp2_with (go_at_call 53; refine Hid.out ?_)
      unfold Hid
      refine Calls.mono HN5.out ?_
      rintro e V3 ⟨e3, rfl, s3, R3, wo3, wc3, hF3, hg3⟩
      have HRn := hidM (HRl.out V3 e3 s3 R3 wo3 wc3 hF3 hg3).1
      clear hF3 hg3 n3 n3f
      go_wp2_with fail
      go_roundw
      case rel => exact ⟨o' + k, n - k, bc - k, e3, rfl, rfl, by omega, by omega, by omega, HRn.out⟩
      case measure => simp [mLen]; omega
    | 6, _ =>
      have HIz : Hid (Calls Try.prog 52 #[.slice (some ⟨X, o', none⟩) k bc] wr fun e w' => e = .returned (.bool (q.all (· == 0))) ∧ wr = w') := by
        have := isZero_any (ca := bc) (HB.out _ HFr.out.kp) (by rw [HQl.out]; omega)
        rw [HQl.out] at this
        exact this
      have HPp : Hid (pieceF s' q = (if q.all (· == 0) = true then 0 else 8, s')) := by
        show _ = _
        have hs : s'.st = 6 := HSt.out.symm
        unfold pieceF
        rw [hs]
        rfl
      cases hmk : q.all (· == 0) with
      | false =>
        rw [hmk] at HIz HPp
        have HRr : Hid (r = wrongF s' 8) := HErr.out 8 _ HPp.out (by decide)
        clear hmk
        go_wp2_with (go_at_call 52; refine Hid.out ?_)
        unfold Hid
        refine Calls.mono HIz.out ?_
        rintro e VM ⟨rfl, rfl⟩
        have HRd := hidM HFr.out
        have c10 : wr.cell? ⟨p, 10, none⟩ = some (.slice wo' s'.ms.length wc') := HRd.out.rd.cells rfl
        have hbx := HRd.out.rd.box
        go_wp2_with (with_reducible show wpList Try.prog _ _ (Oper.mk none (Op.store 73 _ _) _ _ _ _ :: _) _ _; refine Hid.out ?_)
        unfold Hid
        refine wpList_store_row rfl 73 (.tmp 138) (.tmp 137) rfl p (wrongCells s'.ms.length 8 wo' wc').toArray hbx (by rfl) (by rfl) (by simp [wrongCells, scCells]) (by kernel_rfl) (by simp [wrongCells, Value.oneCell']) ?_
        obtain ⟨VE, hVE⟩ : ∃ VE, VE = wr.setRow p ((wrongCells s'.ms.length 8 wo' wc').toArray.toList ++ (scCells s' R' wo' wc' ++ [x, y]).toArray.toList.drop (wrongCells s'.ms.length 8 wo' wc').toArray.size).toArray := ⟨_, rfl⟩
        rw [← hVE]
        have hbE : VE.heap[p]? = some (.cells (wrongCells s'.ms.length 8 wo' wc' ++ [x, y]).toArray 76 (0, 0)) := by rw [hVE]; exact setRow_heap wr p _ _ 76 (0, 0) hbx
        have hkE : Keeps wr VE (fun g => g = p) := by rw [hVE]; exact ⟨rfl, rfl, rfl, by simp, fun kk hk hn => setRow_other wr p kk _ hn⟩
        obtain ⟨RE, woE, wcE, hFE⟩ := HRd.out.then (s2 := wrongF s' 8) ⟨_, _, _, HRd.out.rd.rb.wrong hbE hkE, hkE.mono fun g _ e => .inl e, fun g e => .inl (begin_sub e)⟩
        have HFE := hidM hFE.done
        clear hVE hbE hkE hFE hbx c10 HRd
        go_wp2_with fail
        refine bodyPost_end (v := .tuple #[]) ?_ rfl ⟨rfl, by rw [HRr.out]; exact HFE.out⟩
        simp [results, Try.f40, go_sem]
      | true =>
        rw [hmk] at HIz HPp
        have HPq : Hid (pieceF s' q = (0, s')) := HPp.out
        clear hmk HPp HB HErr
        obtain ⟨n3, n3f, n5⟩ := HNext.out wr _ R' wo' wc' HFr.out HPq.out
        have HN5 := hidM n5
        clear n5 HNext
        go_wp2_with (go_at_call 52; refine Hid.out ?_)
        unfold Hid
        refine Calls.mono HIz.out ?_
        rintro e VM ⟨rfl, rfl⟩
        by_cases hbk : bc = k
        · have hnk : n = k := by omega
          have HBk := hidM hbk
          subst hbk
          subst hnk
          go_wp2_with (go_at_call 53; refine Hid.out ?_)
          unfold Hid
          refine Calls.mono HN5.out ?_
          rintro e V3 ⟨e3, rfl, s3, R3, wo3, wc3, hF3, hg3⟩
          have HRn := hidM ((HRl.out V3 e3 s3 R3 wo3 wc3 hF3 hg3).2 (by first | rfl | trivial))
          clear hF3 hg3 n3 n3f
          go_wp2_with fail
          go_roundw
          case rel => exact ⟨o', _, _, e3, rfl, rfl, by omega, by omega, by omega, by have h9 := HRn.out; unfold Hid; simpa using h9⟩
          case measure => simp [mLen]; omega
        go_wp2_with (go_at_call 53; refine Hid.out ?_)
        unfold Hid
        refine Calls.mono HN5.out ?_
        rintro e V3 ⟨e3, rfl, s3, R3, wo3, wc3, hF3, hg3⟩
        have HRn := hidM (HRl.out V3 e3 s3 R3 wo3 wc3 hF3 hg3).1
        clear hF3 hg3 n3 n3f
        go_wp2_with fail
        go_roundw
        case rel => exact ⟨o' + k, n - k, bc - k, e3, rfl, rfl, by omega, by omega, by omega, HRn.out⟩
        case measure => simp [mLen]; omega
    | 7, _ =>
      have hri := HFr.out.rd.rows 2 (by omega)
      obtain ⟨ho, hn0, hc0, hR0⟩ : ∃ ho n hc, R' 2 = (ho, n, hc) := ⟨_, _, _, rfl⟩
      have c4 : wr.cell? ⟨p, 9, none⟩ = some (.slice ho hn0 hc0) := by have := HFr.out.rd.cells (j := 9) (v := rv (R' 2)) rfl; rw [hR0] at this; exact this
      rw [hR0] at hri
      have hhl : s'.bd.length = hn0 := by
        have h1 := hri.1
        rw [bv_len] at h1
        have h1' : s'.bd.length = hn0 * 1 := h1
        omega
      have hhn : hn0 ≤ 100000000 := by
        have h2 := HPre.out.b7 HSt.out.symm
        have h3 := HPre.out.lm
        have h4 := HPre.out.lb
        have h5 := HPre.out.me
        have h6 := HPre.out.bo
        omega
      have HHn := hidM hhl
      have HRi := hidM hri
      have HR0 := hidM hR0
      clear hri hR0 hhl
      go_wp2_with (at_builtin; refine Hid.out ?_)
      unfold Hid
      refine wpList_append_any _ rfl (.tmp 90) (.tmp 91) 22 22 rfl 5 (.int .u8 0) 1 Try.underlying22 info5 rfl (.slice ho hn0 hc0) hn0 _ rfl HRi.out _ k (bv q) rfl (HSrc.out _ HFr.out.kp) (by omega) (by omega) ?_
      intro v' V0 hown hgrow hblk
      obtain ⟨ho1, hc1, rfl⟩ := own_form1 hown
      obtain ⟨hb0, hD0, -⟩ := HFr.out.rd.app (i := 2) (ci := 9) (k := k) (q := q) (s' := { s' with bd := s'.bd ++ q }) (by omega) HR0.out hown hgrow hblk rfl rfl (fun j => by unfold Sc.row; by_cases c : j = 2 <;> simp [c])
      have HBy : Hid (BytesAt (V0.setCell ⟨p, 9, none⟩ (.slice ho1 (hn0 + k) hc1)) ho1 (s'.bd ++ q)) := by
        have h1 := hown
        have e1 : bv (s'.row 2) ++ bv q = bv (s'.bd ++ q) := by rw [bv_app]; rfl
        rw [e1] at h1
        exact (bytes_of_own h1).keep (Keeps.setCell (S := fun g => g = p) (p := ⟨p, 9, none⟩) (Keeps.refl V0 _) (fun _ => rfl) _) (fun X' o2 e => fun z => by
          subst z
          have t1 := own_typ h1 (g := X') (by rw [e]; rfl)
          have t2 : Typ V0 X' 76 := ⟨_, _, hb0⟩
          exact absurd (t1.ne t2) (by decide))
      have t4 : V0.cell? ⟨p, 9, none⟩ = some (rv (R' 2)) := by simp [World.cell?, hb0, scCells]
      rw [HR0.out] at t4
      have t4' : V0.cell? ⟨p, 9, none⟩ = some (.slice ho hn0 hc0) := t4
      have f4 : V0.frozen? ⟨p, 9, none⟩ = false := frz hb0 9
      obtain ⟨R1, wo1, wc1, hF1⟩ := HFr.out.then hD0
      have HF1 := hidM hF1
      clear hown hgrow hblk hb0 hD0 hF1 t4 c4 HRi HFr HSrc c3
      have t7 : (V0.setCell ⟨p, 9, none⟩ (.slice ho1 (hn0 + k) hc1)).cell? ⟨p, 7, none⟩ = some (.int .u32 (s'.sum.toNat : Int)) := HF1.out.rd.cells rfl
      have f7 : (V0.setCell ⟨p, 9, none⟩ (.slice ho1 (hn0 + k) hc1)).frozen? ⟨p, 7, none⟩ = false := frz HF1.out.rd.box 7
      have HSu : Hid (Calls Try.prog 46 #[.int .u32 (s'.sum.toNat : Int), .slice (some ⟨X, o', none⟩) k bc] (V0.setCell ⟨p, 9, none⟩ (.slice ho1 (hn0 + k) hc1)) fun e w' => e = .returned (.int .u32 ((sumU s'.sum q).toNat : Int)) ∧ (V0.setCell ⟨p, 9, none⟩ (.slice ho1 (hn0 + k) hc1)) = w') := by
        have := sum_any (ca := bc) s'.sum (HB.out _ HF1.out.kp) (by rw [HQl.out]; omega)
        rw [HQl.out] at this
        exact this
      have HF2 : Hid (From w W ((V0.setCell ⟨p, 9, none⟩ (.slice ho1 (hn0 + k) hc1)).setCell ⟨p, 7, none⟩ (.int .u32 ((sumU s'.sum q).toNat : Int))) p 76 [x, y] s.ms.length R wo wc { s' with bd := s'.bd ++ q, sum := sumU s'.sum q } R1 wo1 wc1) := HF1.out.set (j := 7) rfl rfl (fun _ => rfl)
      have HPp : Hid (pieceF s' q = (0, { s' with bd := s'.bd ++ q, sum := sumU s'.sum q })) := by
        show _ = _
        have hs : s'.st = 7 := HSt.out.symm
        unfold pieceF
        rw [hs]
        rfl
      obtain ⟨sa, hsa⟩ : ∃ sa : Int, sa = (s'.sum.toNat : Int) := ⟨_, rfl⟩
      obtain ⟨sb, hsb⟩ : ∃ sb : Int, sb = ((sumU s'.sum q).toNat : Int) := ⟨_, rfl⟩
      rw [← hsa] at t7 HSu
      rw [← hsb] at HSu HF2
      clear hsa hsb HF1 HB HErr HBy
      obtain ⟨n3, n3f, n5⟩ := HNext.out ((V0.setCell ⟨p, 9, none⟩ (.slice ho1 (hn0 + k) hc1)).setCell ⟨p, 7, none⟩ (.int .u32 sb)) _ R1 wo1 wc1 HF2.out HPp.out
      have HN5 := hidM n5
      clear n5 HNext
      go_wp2_with (go_at_call 46; refine Hid.out ?_)
      unfold Hid
      refine Calls.mono HSu.out ?_
      rintro e VM ⟨rfl, rfl⟩
      by_cases hbk : bc = k
      · have hnk : n = k := by omega
        have HBk := hidM hbk
        subst hbk
        subst hnk
        go_wp2_with (go_at_call 53; refine Hid.out ?_)
        unfold Hid
        refine Calls.mono HN5.out ?_
        rintro e V3 ⟨e3, rfl, s3, R3, wo3, wc3, hF3, hg3⟩
        have HRn := hidM ((HRl.out V3 e3 s3 R3 wo3 wc3 hF3 hg3).2 (by first | rfl | trivial))
        clear hF3 hg3 n3 n3f
        go_wp2_with fail
        go_roundw
        case rel => exact ⟨o', _, _, e3, rfl, rfl, by omega, by omega, by omega, by have h9 := HRn.out; unfold Hid; simpa using h9⟩
        case measure => simp [mLen]; omega
      go_wp2_with (go_at_call 53; refine Hid.out ?_)
      unfold Hid
      refine Calls.mono HN5.out ?_
      rintro e V3 ⟨e3, rfl, s3, R3, wo3, wc3, hF3, hg3⟩
      have HRn := hidM (HRl.out V3 e3 s3 R3 wo3 wc3 hF3 hg3).1
      clear hF3 hg3 n3 n3f
      go_wp2_with fail
      go_roundw
      case rel => exact ⟨o' + k, n - k, bc - k, e3, rfl, rfl, by omega, by omega, by omega, HRn.out⟩
      case measure => simp [mLen]; omega
    | 8, _ =>
      have HIz : Hid (Calls Try.prog 52 #[.slice (some ⟨X, o', none⟩) k bc] wr fun e w' => e = .returned (.bool (q.all (· == 0))) ∧ wr = w') := by
        have := isZero_any (ca := bc) (HB.out _ HFr.out.kp) (by rw [HQl.out]; omega)
        rw [HQl.out] at this
        exact this
      have HPp : Hid (pieceF s' q = (if q.all (· == 0) = true then 0 else 8, s')) := by
        show _ = _
        have hs : s'.st = 8 := HSt.out.symm
        unfold pieceF
        rw [hs]
        rfl
      cases hmk : q.all (· == 0) with
      | false =>
        rw [hmk] at HIz HPp
        have HRr : Hid (r = wrongF s' 8) := HErr.out 8 _ HPp.out (by decide)
        clear hmk
        go_wp2_with (go_at_call 52; refine Hid.out ?_)
        unfold Hid
        refine Calls.mono HIz.out ?_
        rintro e VM ⟨rfl, rfl⟩
        have HRd := hidM HFr.out
        have c10 : wr.cell? ⟨p, 10, none⟩ = some (.slice wo' s'.ms.length wc') := HRd.out.rd.cells rfl
        have hbx := HRd.out.rd.box
        go_wp2_with (with_reducible show wpList Try.prog _ _ (Oper.mk none (Op.store 73 _ _) _ _ _ _ :: _) _ _; refine Hid.out ?_)
        unfold Hid
        refine wpList_store_row rfl 73 (.tmp 138) (.tmp 137) rfl p (wrongCells s'.ms.length 8 wo' wc').toArray hbx (by rfl) (by rfl) (by simp [wrongCells, scCells]) (by kernel_rfl) (by simp [wrongCells, Value.oneCell']) ?_
        obtain ⟨VE, hVE⟩ : ∃ VE, VE = wr.setRow p ((wrongCells s'.ms.length 8 wo' wc').toArray.toList ++ (scCells s' R' wo' wc' ++ [x, y]).toArray.toList.drop (wrongCells s'.ms.length 8 wo' wc').toArray.size).toArray := ⟨_, rfl⟩
        rw [← hVE]
        have hbE : VE.heap[p]? = some (.cells (wrongCells s'.ms.length 8 wo' wc' ++ [x, y]).toArray 76 (0, 0)) := by rw [hVE]; exact setRow_heap wr p _ _ 76 (0, 0) hbx
        have hkE : Keeps wr VE (fun g => g = p) := by rw [hVE]; exact ⟨rfl, rfl, rfl, by simp, fun kk hk hn => setRow_other wr p kk _ hn⟩
        obtain ⟨RE, woE, wcE, hFE⟩ := HRd.out.then (s2 := wrongF s' 8) ⟨_, _, _, HRd.out.rd.rb.wrong hbE hkE, hkE.mono fun g _ e => .inl e, fun g e => .inl (begin_sub e)⟩
        have HFE := hidM hFE.done
        clear hVE hbE hkE hFE hbx c10 HRd
        go_wp2_with fail
        refine bodyPost_end (v := .tuple #[]) ?_ rfl ⟨rfl, by rw [HRr.out]; exact HFE.out⟩
        simp [results, Try.f40, go_sem]
      | true =>
        rw [hmk] at HIz HPp
        have HPq : Hid (pieceF s' q = (0, s')) := HPp.out
        clear hmk HPp HB HErr
        obtain ⟨n3, n3f, n5⟩ := HNext.out wr _ R' wo' wc' HFr.out HPq.out
        have HN5 := hidM n5
        clear n5 HNext
        go_wp2_with (go_at_call 52; refine Hid.out ?_)
        unfold Hid
        refine Calls.mono HIz.out ?_
        rintro e VM ⟨rfl, rfl⟩
        by_cases hbk : bc = k
        · have hnk : n = k := by omega
          have HBk := hidM hbk
          subst hbk
          subst hnk
          go_wp2_with (go_at_call 53; refine Hid.out ?_)
          unfold Hid
          refine Calls.mono HN5.out ?_
          rintro e V3 ⟨e3, rfl, s3, R3, wo3, wc3, hF3, hg3⟩
          have HRn := hidM ((HRl.out V3 e3 s3 R3 wo3 wc3 hF3 hg3).2 (by first | rfl | trivial))
          clear hF3 hg3 n3 n3f
          go_wp2_with fail
          go_roundw
          case rel => exact ⟨o', _, _, e3, rfl, rfl, by omega, by omega, by omega, by have h9 := HRn.out; unfold Hid; simpa using h9⟩
          case measure => simp [mLen]; omega
        go_wp2_with (go_at_call 53; refine Hid.out ?_)
        unfold Hid
        refine Calls.mono HN5.out ?_
        rintro e V3 ⟨e3, rfl, s3, R3, wo3, wc3, hF3, hg3⟩
        have HRn := hidM (HRl.out V3 e3 s3 R3 wo3 wc3 hF3 hg3).1
        clear hF3 hg3 n3 n3f
        go_wp2_with fail
        go_roundw
        case rel => exact ⟨o' + k, n - k, bc - k, e3, rfl, rfl, by omega, by omega, by omega, HRn.out⟩
        case measure => simp [mLen]; omega
    | 9, _ =>
      have HPp : Hid (pieceF s' q = (74, s')) := by
        show _ = _
        have hs : s'.st = 9 := HSt.out.symm
        unfold pieceF
        rw [hs]
        rfl
      have HRr : Hid (r = wrongF s' 74) := HErr.out 74 _ HPp.out (by decide)
      have HRd := hidM HFr.out
      have c10 : wr.cell? ⟨p, 10, none⟩ = some (.slice wo' s'.ms.length wc') := HRd.out.rd.cells rfl
      have hbx := HRd.out.rd.box
      go_wp2_with (with_reducible show wpList Try.prog _ _ (Oper.mk none (Op.store 73 _ _) _ _ _ _ :: _) _ _; refine Hid.out ?_)
      unfold Hid
      refine wpList_store_row rfl 73 (.tmp 138) (.tmp 137) rfl p (wrongCells s'.ms.length 74 wo' wc').toArray hbx (by rfl) (by rfl) (by simp [wrongCells, scCells]) (by kernel_rfl) (by simp [wrongCells, Value.oneCell']) ?_
      obtain ⟨VE, hVE⟩ : ∃ VE, VE = wr.setRow p ((wrongCells s'.ms.length 74 wo' wc').toArray.toList ++ (scCells s' R' wo' wc' ++ [x, y]).toArray.toList.drop (wrongCells s'.ms.length 74 wo' wc').toArray.size).toArray := ⟨_, rfl⟩
      rw [← hVE]
      have hbE : VE.heap[p]? = some (.cells (wrongCells s'.ms.length 74 wo' wc' ++ [x, y]).toArray 76 (0, 0)) := by rw [hVE]; exact setRow_heap wr p _ _ 76 (0, 0) hbx
      have hkE : Keeps wr VE (fun g => g = p) := by rw [hVE]; exact ⟨rfl, rfl, rfl, by simp, fun kk hk hn => setRow_other wr p kk _ hn⟩
      obtain ⟨RE, woE, wcE, hFE⟩ := HRd.out.then (s2 := wrongF s' 74) ⟨_, _, _, HRd.out.rd.rb.wrong hbE hkE, hkE.mono fun g _ e => .inl e, fun g e => .inl (begin_sub e)⟩
      have HFE := hidM hFE.done
      clear hVE hbE hkE hFE hbx c10 HRd
      go_wp2_with fail
      refine bodyPost_end (v := .tuple #[]) ?_ rfl ⟨rfl, by rw [HRr.out]; exact HFE.out⟩
      simp [results, Try.f40, go_sem]
end Go.Proofs.Ytemleibpmaclmaa.Kit
