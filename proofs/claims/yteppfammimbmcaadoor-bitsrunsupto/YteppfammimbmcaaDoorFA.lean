import Derived.Test.YteppfammimbmcaaDoorU
namespace Go.Proofs.YteppfammimbmcaaDoor.Kit
open Go.RowKit Go.Deep
set_option linter.unusedVariables false

/-- a map of one's own -/
def HasB (w : World) (v : Value) (l : List Nat) : Prop := w.ownsRow 0 5 1 v l.length (cellsB l) ∧ Bytes l ∧ l.length ≤ 10000000
theorem HasB.kept {w w' : World} {v : Value} {l : List Nat} (h : HasB w v l) (k : Keeps w w' (fun _ => False)) : HasB w' v l := ⟨own_kept h.1 k fun _ _ => id, h.2⟩
theorem HasB.map {w : World} {v : Value} {l : List Nat} (h : HasB w v l) : MapAt w v l := by
  refine ⟨?_, h.2.1, h.2.2⟩
  rcases h.1.2 with ⟨rfl, h0⟩ | ⟨g, cap, cur, rfl, _, hgg, hc1, hc2, _⟩
  · exact ⟨none, 0, by rw [h0], fun hn => by omega, by omega, by omega⟩
  · refine ⟨_, cap, rfl, fun hn => ⟨g, 0, rfl, fun k hk => ?_⟩, hc1, by unfold maxLen at hc2; omega⟩
    rw [Nat.zero_add, h.1.cellAt k (by omega)]
    simp [hk]
theorem HasB.of {w w' : World} {v : Value} {l : List Nat} (h : New w w' 5 v (cellsB l)) (hl : Bytes l) (hn : l.length ≤ 10000000) : HasB w' v l := ⟨h.own (by simp), hl, hn⟩
theorem HasB.rep {w : World} {v : Value} {l : List Nat} (h : HasB w v l) : RepAt 0 w (.agg #[.int .i64 0, .int .i64 0, .bool false, v, .slice none 0 0, .slice none 0 0]) { err := 0, num := 0, yes := false, bytes := l, bools := [], nums := [] } :=
  ⟨v, _, _, rfl, h.1, World.ownsRow_nil w 0 4 1, World.ownsRow_nil w 0 3 1, fun _ _ => Nat.zero_le _⟩
theorem mk_has {w w' : World} {v : Value} {f : Nat → Bool} {n : Nat} (hn : n ≤ 80000000) (h : New w w' 5 v (cellsB (mk f n))) : ∃ ao cap, v = .slice ao (need n) cap ∧ HasB w' v (mk f n) := by
  have hb : HasB w' v (mk f n) := HasB.of h (mk_bytes f n) (by rw [mk_length]; unfold need; omega)
  obtain ⟨ao, cap, e⟩ := own_form hb.1
  rw [mk_length] at e
  exact ⟨ao, cap, e, hb⟩
def PostM (w : World) (f : Nat → Bool) (n : Nat) (e : Ending) (w' : World) : Prop := ∃ ao cap, e = .returned (.tuple #[.slice ao (need n) cap, .int .i64 0]) ∧ HasB w' (.slice ao (need n) cap) (mk f n) ∧ Keeps w w' (fun _ => False)
theorem not_m (v : Value) (l : List Nat) (f : Nat → Bool) (n : Nat) (h : n ≤ 8 * l.length) (hf : ∀ k, k < n → (!bitAt l k) = f k) (w : World) (hA : MapAt w v l) : Calls Tryd.prog 30 #[v, .int .i64 n] w (PostM w f n) := by
  have hl := hA.len
  refine (not2_all v l n ⟨by omega, by omega⟩ w hA).mono ?_
  rintro e w' ⟨v', rfl, hN⟩
  have he : errOf l.length 0 (n : Int) = 0 := errOf_ok (fr := 0) (by omega)
  have e1 : notV l (n : Int) = mk f n := by unfold notV; rw [if_pos he]; exact mk_congr hf
  rw [e1] at hN
  rw [he]
  obtain ⟨ao, cap, rfl, hb⟩ := mk_has (by omega) hN
  exact ⟨ao, cap, rfl, hb, hN.2.2⟩
theorem cut_m (v : Value) (l : List Nat) (f : Nat → Bool) (n : Nat) (h : n ≤ 8 * l.length) (hf : ∀ k, k < n → bitAt l k = f k) (w : World) (hA : MapAt w v l) : Calls Tryd.prog 20 #[v, .int .i64 0, .int .i64 n] w (PostM w f n) := by
  have hl := hA.len
  refine (cut_all v l 0 n ⟨by decide, by decide⟩ ⟨by omega, by omega⟩ w hA).mono ?_
  rintro e w' ⟨v', rfl, hN⟩
  have he : errOf l.length 0 (n : Int) = 0 := errOf_ok (fr := 0) (by omega)
  have e1 : cutV l 0 (n : Int) = mk f n := by unfold cutV; rw [if_pos he]; exact mk_congr fun k hk => by simpa [fromL] using hf k hk
  rw [e1] at hN
  rw [he]
  obtain ⟨ao, cap, rfl, hb⟩ := mk_has (by omega) hN
  exact ⟨ao, cap, rfl, hb, hN.2.2⟩
theorem and_m (v u : Value) (l r : List Nat) (f : Nat → Bool) (n : Nat) (h : n ≤ 8 * l.length) (h' : n ≤ 8 * r.length) (hf : ∀ k, k < n → (bitAt l k && bitAt r k) = f k) (w : World) (hA : MapAt w v l) (hB : MapAt w u r) : Calls Tryd.prog 27 #[v, u, .int .i64 n] w (PostM w f n) := by
  have hl := hA.len
  refine (and2_all v u l r n ⟨by omega, by omega⟩ w hA hB).mono ?_
  rintro e w' ⟨v', rfl, hN⟩
  have he : errJ l.length r.length (n : Int) = 0 := errJ_ok h h'
  have e1 : joinV (fun a b => a && b) l r (n : Int) = mk f n := by unfold joinV; rw [if_pos he]; exact mk_congr hf
  rw [e1] at hN
  rw [he]
  obtain ⟨ao, cap, rfl, hb⟩ := mk_has (by omega) hN
  exact ⟨ao, cap, rfl, hb, hN.2.2⟩
theorem or_m (v u : Value) (l r : List Nat) (f : Nat → Bool) (n : Nat) (h : n ≤ 8 * l.length) (h' : n ≤ 8 * r.length) (hf : ∀ k, k < n → (bitAt l k || bitAt r k) = f k) (w : World) (hA : MapAt w v l) (hB : MapAt w u r) : Calls Tryd.prog 28 #[v, u, .int .i64 n] w (PostM w f n) := by
  have hl := hA.len
  refine (or2_all v u l r n ⟨by omega, by omega⟩ w hA hB).mono ?_
  rintro e w' ⟨v', rfl, hN⟩
  have he : errJ l.length r.length (n : Int) = 0 := errJ_ok h h'
  have e1 : joinV (fun a b => a || b) l r (n : Int) = mk f n := by unfold joinV; rw [if_pos he]; exact mk_congr hf
  rw [e1] at hN
  rw [he]
  obtain ⟨ao, cap, rfl, hb⟩ := mk_has (by omega) hN
  exact ⟨ao, cap, rfl, hb, hN.2.2⟩
theorem xor_m (v u : Value) (l r : List Nat) (f : Nat → Bool) (n : Nat) (h : n ≤ 8 * l.length) (h' : n ≤ 8 * r.length) (hf : ∀ k, k < n → (bitAt l k ^^ bitAt r k) = f k) (w : World) (hA : MapAt w v l) (hB : MapAt w u r) : Calls Tryd.prog 29 #[v, u, .int .i64 n] w (PostM w f n) := by
  have hl := hA.len
  refine (xor2_all v u l r n ⟨by omega, by omega⟩ w hA hB).mono ?_
  rintro e w' ⟨v', rfl, hN⟩
  have he : errJ l.length r.length (n : Int) = 0 := errJ_ok h h'
  have e1 : joinV (fun a b => a ^^ b) l r (n : Int) = mk f n := by unfold joinV; rw [if_pos he]; exact mk_congr hf
  rw [e1] at hN
  rw [he]
  obtain ⟨ao, cap, rfl, hb⟩ := mk_has (by omega) hN
  exact ⟨ao, cap, rfl, hb, hN.2.2⟩
theorem need8 (n : Nat) : n ≤ 8 * need n := by unfold need; omega
theorem alike_m (v u : Value) (l : List Nat) (w : World) (hA : HasB w v l) (hB : HasB w u l) : Calls Tryd.prog 9 #[.agg #[.int .i64 0, .int .i64 0, .bool false, v, .slice none 0 0, .slice none 0 0], .agg #[.int .i64 0, .int .i64 0, .bool false, u, .slice none 0 0, .slice none 0 0]] w fun e w' => e = .returned (.bool true) ∧ Keeps w w' (fun _ => False) :=
  alike_all _ _ _ 0 0 w ⟨by have := hA.2.2; simp; omega, by simp, by simp⟩ hA.rep hB.rep

set_option maxRecDepth 100000 in
set_option maxHeartbeats 4000000 in
theorem morgan_lt (ao bo : Option Addr) (ca cb : Nat) (la lb : List Nat) (w : World) (hc : lb.length < la.length) (hA : MapAt w (.slice ao la.length ca) la) (hB : MapAt w (.slice bo lb.length cb) lb) :
    Calls Tryd.prog 25 #[.slice ao la.length ca, .slice bo lb.length cb] w fun e w' => e = .returned (.bool true) ∧ Keeps w w' (fun _ => False) := by
  have hla := hA.len
  have hlb := hB.len
  have Ha : Hid (MapAt w (.slice ao la.length ca) la) := hA
  have Hb : Hid (MapAt w (.slice bo lb.length cb) lb) := hB
  have HK0 : Hid (Keeps w w (fun _ => False)) := Keeps.refl _ _
  have hn1 : 8 * lb.length ≤ 8 * la.length := by omega
  have hn2 : 8 * lb.length ≤ 8 * lb.length := by omega
  have hn8 := need8 (8 * lb.length)
  have HN8 : Hid (8 * lb.length ≤ 8 * need (8 * lb.length)) := hn8
  clear hA hB hn8
  go_enter Tryd.func25, Tryd.ntmps25
  go_wp2_with fail
  go_at_call 30
  refine (not_m (.slice ao la.length ca) la (fun k => !bitAt la k) (8 * lb.length) hn1 (fun k hk => rfl) w (Ha.out.kept HK0.out)).mono ?_
  rintro e w1 ⟨ox, cx, rfl, Hx0, hk⟩
  have HK1 : Hid (Keeps w w1 (fun _ => False)) := HK0.out.trans hk fun _ _ h => h
  have Hx : Hid (HasB w1 (.slice ox (need (8 * lb.length)) cx) (mk (fun k => !bitAt la k) (8 * lb.length))) := Hx0
  clear Hx0 hk HK0
  go_wp2_with fail
  go_at_call 30
  refine (not_m (.slice bo lb.length cb) lb (fun k => !bitAt lb k) (8 * lb.length) hn2 (fun k hk => rfl) w1 (Hb.out.kept HK1.out)).mono ?_
  rintro e w2 ⟨oy, cy, rfl, Hy0, hk⟩
  have HK2 : Hid (Keeps w w2 (fun _ => False)) := HK1.out.trans hk fun _ _ h => h
  have Hx : Hid (HasB w2 (.slice ox (need (8 * lb.length)) cx) (mk (fun k => !bitAt la k) (8 * lb.length))) := Hx.out.kept hk
  have Hy : Hid (HasB w2 (.slice oy (need (8 * lb.length)) cy) (mk (fun k => !bitAt lb k) (8 * lb.length))) := Hy0
  clear Hy0 hk HK1
  go_wp2_with fail
  go_at_call 27
  refine (and_m (.slice ox (need (8 * lb.length)) cx) (.slice oy (need (8 * lb.length)) cy) (mk (fun k => !bitAt la k) (8 * lb.length)) (mk (fun k => !bitAt lb k) (8 * lb.length)) (fun k => !(bitAt la k || bitAt lb k)) (8 * lb.length) (by rw [mk_length]; exact HN8.out) (by rw [mk_length]; exact HN8.out) (fun k hk => by rw [mk_bit _ _ _ hk, mk_bit _ _ _ hk]; cases bitAt la k <;> cases bitAt lb k <;> rfl) w2 Hx.out.map Hy.out.map).mono ?_
  rintro e w3 ⟨oboth, cboth, rfl, Hboth0, hk⟩
  have HK3 : Hid (Keeps w w3 (fun _ => False)) := HK2.out.trans hk fun _ _ h => h
  have Hx : Hid (HasB w3 (.slice ox (need (8 * lb.length)) cx) (mk (fun k => !bitAt la k) (8 * lb.length))) := Hx.out.kept hk
  have Hy : Hid (HasB w3 (.slice oy (need (8 * lb.length)) cy) (mk (fun k => !bitAt lb k) (8 * lb.length))) := Hy.out.kept hk
  have Hboth : Hid (HasB w3 (.slice oboth (need (8 * lb.length)) cboth) (mk (fun k => !(bitAt la k || bitAt lb k)) (8 * lb.length))) := Hboth0
  clear Hboth0 hk HK2
  go_wp2_with fail
  go_at_call 28
  refine (or_m (.slice ao la.length ca) (.slice bo lb.length cb) la lb (fun k => bitAt la k || bitAt lb k) (8 * lb.length) hn1 hn2 (fun k hk => rfl) w3 (Ha.out.kept HK3.out) (Hb.out.kept HK3.out)).mono ?_
  rintro e w4 ⟨osm, csm, rfl, Hsm0, hk⟩
  have HK4 : Hid (Keeps w w4 (fun _ => False)) := HK3.out.trans hk fun _ _ h => h
  have Hx : Hid (HasB w4 (.slice ox (need (8 * lb.length)) cx) (mk (fun k => !bitAt la k) (8 * lb.length))) := Hx.out.kept hk
  have Hy : Hid (HasB w4 (.slice oy (need (8 * lb.length)) cy) (mk (fun k => !bitAt lb k) (8 * lb.length))) := Hy.out.kept hk
  have Hboth : Hid (HasB w4 (.slice oboth (need (8 * lb.length)) cboth) (mk (fun k => !(bitAt la k || bitAt lb k)) (8 * lb.length))) := Hboth.out.kept hk
  have Hsm : Hid (HasB w4 (.slice osm (need (8 * lb.length)) csm) (mk (fun k => bitAt la k || bitAt lb k) (8 * lb.length))) := Hsm0
  clear Hsm0 hk HK3
  go_wp2_with fail
  go_at_call 30
  refine (not_m (.slice osm (need (8 * lb.length)) csm) (mk (fun k => bitAt la k || bitAt lb k) (8 * lb.length)) (fun k => !(bitAt la k || bitAt lb k)) (8 * lb.length) (by rw [mk_length]; exact HN8.out) (fun k hk => by rw [mk_bit _ _ _ hk]) w4 Hsm.out.map).mono ?_
  rintro e w5 ⟨onn, cnn, rfl, Hnn0, hk⟩
  have HK5 : Hid (Keeps w w5 (fun _ => False)) := HK4.out.trans hk fun _ _ h => h
  have Hx : Hid (HasB w5 (.slice ox (need (8 * lb.length)) cx) (mk (fun k => !bitAt la k) (8 * lb.length))) := Hx.out.kept hk
  have Hy : Hid (HasB w5 (.slice oy (need (8 * lb.length)) cy) (mk (fun k => !bitAt lb k) (8 * lb.length))) := Hy.out.kept hk
  have Hboth : Hid (HasB w5 (.slice oboth (need (8 * lb.length)) cboth) (mk (fun k => !(bitAt la k || bitAt lb k)) (8 * lb.length))) := Hboth.out.kept hk
  have Hsm : Hid (HasB w5 (.slice osm (need (8 * lb.length)) csm) (mk (fun k => bitAt la k || bitAt lb k) (8 * lb.length))) := Hsm.out.kept hk
  have Hnn : Hid (HasB w5 (.slice onn (need (8 * lb.length)) cnn) (mk (fun k => !(bitAt la k || bitAt lb k)) (8 * lb.length))) := Hnn0
  clear Hnn0 hk HK4
  go_wp2_with fail
  go_at_call 30
  refine (not_m (.slice ox (need (8 * lb.length)) cx) (mk (fun k => !bitAt la k) (8 * lb.length)) (fun k => bitAt la k) (8 * lb.length) (by rw [mk_length]; exact HN8.out) (fun k hk => by rw [mk_bit _ _ _ hk]; cases bitAt la k <;> rfl) w5 Hx.out.map).mono ?_
  rintro e w6 ⟨oback, cback, rfl, Hback0, hk⟩
  have HK6 : Hid (Keeps w w6 (fun _ => False)) := HK5.out.trans hk fun _ _ h => h
  have Hx : Hid (HasB w6 (.slice ox (need (8 * lb.length)) cx) (mk (fun k => !bitAt la k) (8 * lb.length))) := Hx.out.kept hk
  have Hy : Hid (HasB w6 (.slice oy (need (8 * lb.length)) cy) (mk (fun k => !bitAt lb k) (8 * lb.length))) := Hy.out.kept hk
  have Hboth : Hid (HasB w6 (.slice oboth (need (8 * lb.length)) cboth) (mk (fun k => !(bitAt la k || bitAt lb k)) (8 * lb.length))) := Hboth.out.kept hk
  have Hsm : Hid (HasB w6 (.slice osm (need (8 * lb.length)) csm) (mk (fun k => bitAt la k || bitAt lb k) (8 * lb.length))) := Hsm.out.kept hk
  have Hnn : Hid (HasB w6 (.slice onn (need (8 * lb.length)) cnn) (mk (fun k => !(bitAt la k || bitAt lb k)) (8 * lb.length))) := Hnn.out.kept hk
  have Hback : Hid (HasB w6 (.slice oback (need (8 * lb.length)) cback) (mk (fun k => bitAt la k) (8 * lb.length))) := Hback0
  clear Hback0 hk HK5
  go_wp2_with fail
  go_at_call 20
  refine (cut_m (.slice ao la.length ca) la (fun k => bitAt la k) (8 * lb.length) hn1 (fun k hk => rfl) w6 (Ha.out.kept HK6.out)).mono ?_
  rintro e w7 ⟨ofirst, cfirst, rfl, Hfirst0, hk⟩
  have HK7 : Hid (Keeps w w7 (fun _ => False)) := HK6.out.trans hk fun _ _ h => h
  have Hx : Hid (HasB w7 (.slice ox (need (8 * lb.length)) cx) (mk (fun k => !bitAt la k) (8 * lb.length))) := Hx.out.kept hk
  have Hy : Hid (HasB w7 (.slice oy (need (8 * lb.length)) cy) (mk (fun k => !bitAt lb k) (8 * lb.length))) := Hy.out.kept hk
  have Hboth : Hid (HasB w7 (.slice oboth (need (8 * lb.length)) cboth) (mk (fun k => !(bitAt la k || bitAt lb k)) (8 * lb.length))) := Hboth.out.kept hk
  have Hsm : Hid (HasB w7 (.slice osm (need (8 * lb.length)) csm) (mk (fun k => bitAt la k || bitAt lb k) (8 * lb.length))) := Hsm.out.kept hk
  have Hnn : Hid (HasB w7 (.slice onn (need (8 * lb.length)) cnn) (mk (fun k => !(bitAt la k || bitAt lb k)) (8 * lb.length))) := Hnn.out.kept hk
  have Hback : Hid (HasB w7 (.slice oback (need (8 * lb.length)) cback) (mk (fun k => bitAt la k) (8 * lb.length))) := Hback.out.kept hk
  have Hfirst : Hid (HasB w7 (.slice ofirst (need (8 * lb.length)) cfirst) (mk (fun k => bitAt la k) (8 * lb.length))) := Hfirst0
  clear Hfirst0 hk HK6
  go_wp2_with fail
  go_at_call 29
  refine (xor_m (.slice ao la.length ca) (.slice bo lb.length cb) la lb (fun k => bitAt la k ^^ bitAt lb k) (8 * lb.length) hn1 hn2 (fun k hk => rfl) w7 (Ha.out.kept HK7.out) (Hb.out.kept HK7.out)).mono ?_
  rintro e w8 ⟨ojust, cjust, rfl, Hjust0, hk⟩
  have HK8 : Hid (Keeps w w8 (fun _ => False)) := HK7.out.trans hk fun _ _ h => h
  have Hx : Hid (HasB w8 (.slice ox (need (8 * lb.length)) cx) (mk (fun k => !bitAt la k) (8 * lb.length))) := Hx.out.kept hk
  have Hy : Hid (HasB w8 (.slice oy (need (8 * lb.length)) cy) (mk (fun k => !bitAt lb k) (8 * lb.length))) := Hy.out.kept hk
  have Hboth : Hid (HasB w8 (.slice oboth (need (8 * lb.length)) cboth) (mk (fun k => !(bitAt la k || bitAt lb k)) (8 * lb.length))) := Hboth.out.kept hk
  have Hsm : Hid (HasB w8 (.slice osm (need (8 * lb.length)) csm) (mk (fun k => bitAt la k || bitAt lb k) (8 * lb.length))) := Hsm.out.kept hk
  have Hnn : Hid (HasB w8 (.slice onn (need (8 * lb.length)) cnn) (mk (fun k => !(bitAt la k || bitAt lb k)) (8 * lb.length))) := Hnn.out.kept hk
  have Hback : Hid (HasB w8 (.slice oback (need (8 * lb.length)) cback) (mk (fun k => bitAt la k) (8 * lb.length))) := Hback.out.kept hk
  have Hfirst : Hid (HasB w8 (.slice ofirst (need (8 * lb.length)) cfirst) (mk (fun k => bitAt la k) (8 * lb.length))) := Hfirst.out.kept hk
  have Hjust : Hid (HasB w8 (.slice ojust (need (8 * lb.length)) cjust) (mk (fun k => bitAt la k ^^ bitAt lb k) (8 * lb.length))) := Hjust0
  clear Hjust0 hk HK7
  go_wp2_with fail
  go_at_call 27
  refine (and_m (.slice ao la.length ca) (.slice bo lb.length cb) la lb (fun k => bitAt la k && bitAt lb k) (8 * lb.length) hn1 hn2 (fun k hk => rfl) w8 (Ha.out.kept HK8.out) (Hb.out.kept HK8.out)).mono ?_
  rintro e w9 ⟨oal, cal, rfl, Hal0, hk⟩
  have HK9 : Hid (Keeps w w9 (fun _ => False)) := HK8.out.trans hk fun _ _ h => h
  have Hx : Hid (HasB w9 (.slice ox (need (8 * lb.length)) cx) (mk (fun k => !bitAt la k) (8 * lb.length))) := Hx.out.kept hk
  have Hy : Hid (HasB w9 (.slice oy (need (8 * lb.length)) cy) (mk (fun k => !bitAt lb k) (8 * lb.length))) := Hy.out.kept hk
  have Hboth : Hid (HasB w9 (.slice oboth (need (8 * lb.length)) cboth) (mk (fun k => !(bitAt la k || bitAt lb k)) (8 * lb.length))) := Hboth.out.kept hk
  have Hsm : Hid (HasB w9 (.slice osm (need (8 * lb.length)) csm) (mk (fun k => bitAt la k || bitAt lb k) (8 * lb.length))) := Hsm.out.kept hk
  have Hnn : Hid (HasB w9 (.slice onn (need (8 * lb.length)) cnn) (mk (fun k => !(bitAt la k || bitAt lb k)) (8 * lb.length))) := Hnn.out.kept hk
  have Hback : Hid (HasB w9 (.slice oback (need (8 * lb.length)) cback) (mk (fun k => bitAt la k) (8 * lb.length))) := Hback.out.kept hk
  have Hfirst : Hid (HasB w9 (.slice ofirst (need (8 * lb.length)) cfirst) (mk (fun k => bitAt la k) (8 * lb.length))) := Hfirst.out.kept hk
  have Hjust : Hid (HasB w9 (.slice ojust (need (8 * lb.length)) cjust) (mk (fun k => bitAt la k ^^ bitAt lb k) (8 * lb.length))) := Hjust.out.kept hk
  have Hal : Hid (HasB w9 (.slice oal (need (8 * lb.length)) cal) (mk (fun k => bitAt la k && bitAt lb k) (8 * lb.length))) := Hal0
  clear Hal0 hk HK8
  go_wp2_with fail
  go_at_call 29
  refine (xor_m (.slice ojust (need (8 * lb.length)) cjust) (.slice oal (need (8 * lb.length)) cal) (mk (fun k => bitAt la k ^^ bitAt lb k) (8 * lb.length)) (mk (fun k => bitAt la k && bitAt lb k) (8 * lb.length)) (fun k => bitAt la k || bitAt lb k) (8 * lb.length) (by rw [mk_length]; exact HN8.out) (by rw [mk_length]; exact HN8.out) (fun k hk => by rw [mk_bit _ _ _ hk, mk_bit _ _ _ hk]; cases bitAt la k <;> cases bitAt lb k <;> rfl) w9 Hjust.out.map Hal.out.map).mono ?_
  rintro e w10 ⟨oagain, cagain, rfl, Hagain0, hk⟩
  have HK10 : Hid (Keeps w w10 (fun _ => False)) := HK9.out.trans hk fun _ _ h => h
  have Hx : Hid (HasB w10 (.slice ox (need (8 * lb.length)) cx) (mk (fun k => !bitAt la k) (8 * lb.length))) := Hx.out.kept hk
  have Hy : Hid (HasB w10 (.slice oy (need (8 * lb.length)) cy) (mk (fun k => !bitAt lb k) (8 * lb.length))) := Hy.out.kept hk
  have Hboth : Hid (HasB w10 (.slice oboth (need (8 * lb.length)) cboth) (mk (fun k => !(bitAt la k || bitAt lb k)) (8 * lb.length))) := Hboth.out.kept hk
  have Hsm : Hid (HasB w10 (.slice osm (need (8 * lb.length)) csm) (mk (fun k => bitAt la k || bitAt lb k) (8 * lb.length))) := Hsm.out.kept hk
  have Hnn : Hid (HasB w10 (.slice onn (need (8 * lb.length)) cnn) (mk (fun k => !(bitAt la k || bitAt lb k)) (8 * lb.length))) := Hnn.out.kept hk
  have Hback : Hid (HasB w10 (.slice oback (need (8 * lb.length)) cback) (mk (fun k => bitAt la k) (8 * lb.length))) := Hback.out.kept hk
  have Hfirst : Hid (HasB w10 (.slice ofirst (need (8 * lb.length)) cfirst) (mk (fun k => bitAt la k) (8 * lb.length))) := Hfirst.out.kept hk
  have Hjust : Hid (HasB w10 (.slice ojust (need (8 * lb.length)) cjust) (mk (fun k => bitAt la k ^^ bitAt lb k) (8 * lb.length))) := Hjust.out.kept hk
  have Hal : Hid (HasB w10 (.slice oal (need (8 * lb.length)) cal) (mk (fun k => bitAt la k && bitAt lb k) (8 * lb.length))) := Hal.out.kept hk
  have Hagain : Hid (HasB w10 (.slice oagain (need (8 * lb.length)) cagain) (mk (fun k => bitAt la k || bitAt lb k) (8 * lb.length))) := Hagain0
  clear Hagain0 hk HK9
  go_wp2_with fail
  go_at_call 9
  refine (alike_m (.slice oboth (need (8 * lb.length)) cboth) (.slice onn (need (8 * lb.length)) cnn) _ w10 Hboth.out Hnn.out).mono ?_
  rintro e v1 ⟨rfl, hk⟩
  have HV0 : Hid (Keeps w v1 (fun _ => False)) := HK10.out.trans hk fun _ _ h => h
  have Hx : Hid (HasB v1 (.slice ox (need (8 * lb.length)) cx) (mk (fun k => !bitAt la k) (8 * lb.length))) := Hx.out.kept hk
  have Hy : Hid (HasB v1 (.slice oy (need (8 * lb.length)) cy) (mk (fun k => !bitAt lb k) (8 * lb.length))) := Hy.out.kept hk
  have Hboth : Hid (HasB v1 (.slice oboth (need (8 * lb.length)) cboth) (mk (fun k => !(bitAt la k || bitAt lb k)) (8 * lb.length))) := Hboth.out.kept hk
  have Hsm : Hid (HasB v1 (.slice osm (need (8 * lb.length)) csm) (mk (fun k => bitAt la k || bitAt lb k) (8 * lb.length))) := Hsm.out.kept hk
  have Hnn : Hid (HasB v1 (.slice onn (need (8 * lb.length)) cnn) (mk (fun k => !(bitAt la k || bitAt lb k)) (8 * lb.length))) := Hnn.out.kept hk
  have Hback : Hid (HasB v1 (.slice oback (need (8 * lb.length)) cback) (mk (fun k => bitAt la k) (8 * lb.length))) := Hback.out.kept hk
  have Hfirst : Hid (HasB v1 (.slice ofirst (need (8 * lb.length)) cfirst) (mk (fun k => bitAt la k) (8 * lb.length))) := Hfirst.out.kept hk
  have Hjust : Hid (HasB v1 (.slice ojust (need (8 * lb.length)) cjust) (mk (fun k => bitAt la k ^^ bitAt lb k) (8 * lb.length))) := Hjust.out.kept hk
  have Hal : Hid (HasB v1 (.slice oal (need (8 * lb.length)) cal) (mk (fun k => bitAt la k && bitAt lb k) (8 * lb.length))) := Hal.out.kept hk
  have Hagain : Hid (HasB v1 (.slice oagain (need (8 * lb.length)) cagain) (mk (fun k => bitAt la k || bitAt lb k) (8 * lb.length))) := Hagain.out.kept hk
  clear hk
  go_wp2_with fail
  go_at_call 9
  refine (alike_m (.slice oback (need (8 * lb.length)) cback) (.slice ofirst (need (8 * lb.length)) cfirst) _ v1 Hback.out Hfirst.out).mono ?_
  rintro e v2 ⟨rfl, hk⟩
  have HV1 : Hid (Keeps w v2 (fun _ => False)) := HV0.out.trans hk fun _ _ h => h
  have Hx : Hid (HasB v2 (.slice ox (need (8 * lb.length)) cx) (mk (fun k => !bitAt la k) (8 * lb.length))) := Hx.out.kept hk
  have Hy : Hid (HasB v2 (.slice oy (need (8 * lb.length)) cy) (mk (fun k => !bitAt lb k) (8 * lb.length))) := Hy.out.kept hk
  have Hboth : Hid (HasB v2 (.slice oboth (need (8 * lb.length)) cboth) (mk (fun k => !(bitAt la k || bitAt lb k)) (8 * lb.length))) := Hboth.out.kept hk
  have Hsm : Hid (HasB v2 (.slice osm (need (8 * lb.length)) csm) (mk (fun k => bitAt la k || bitAt lb k) (8 * lb.length))) := Hsm.out.kept hk
  have Hnn : Hid (HasB v2 (.slice onn (need (8 * lb.length)) cnn) (mk (fun k => !(bitAt la k || bitAt lb k)) (8 * lb.length))) := Hnn.out.kept hk
  have Hback : Hid (HasB v2 (.slice oback (need (8 * lb.length)) cback) (mk (fun k => bitAt la k) (8 * lb.length))) := Hback.out.kept hk
  have Hfirst : Hid (HasB v2 (.slice ofirst (need (8 * lb.length)) cfirst) (mk (fun k => bitAt la k) (8 * lb.length))) := Hfirst.out.kept hk
  have Hjust : Hid (HasB v2 (.slice ojust (need (8 * lb.length)) cjust) (mk (fun k => bitAt la k ^^ bitAt lb k) (8 * lb.length))) := Hjust.out.kept hk
  have Hal : Hid (HasB v2 (.slice oal (need (8 * lb.length)) cal) (mk (fun k => bitAt la k && bitAt lb k) (8 * lb.length))) := Hal.out.kept hk
  have Hagain : Hid (HasB v2 (.slice oagain (need (8 * lb.length)) cagain) (mk (fun k => bitAt la k || bitAt lb k) (8 * lb.length))) := Hagain.out.kept hk
  clear hk
  go_wp2_with fail
  go_at_call 9
  refine (alike_m (.slice oagain (need (8 * lb.length)) cagain) (.slice osm (need (8 * lb.length)) csm) _ v2 Hagain.out Hsm.out).mono ?_
  rintro e v3 ⟨rfl, hk⟩
  have HV2 : Hid (Keeps w v3 (fun _ => False)) := HV1.out.trans hk fun _ _ h => h
  have Hx : Hid (HasB v3 (.slice ox (need (8 * lb.length)) cx) (mk (fun k => !bitAt la k) (8 * lb.length))) := Hx.out.kept hk
  have Hy : Hid (HasB v3 (.slice oy (need (8 * lb.length)) cy) (mk (fun k => !bitAt lb k) (8 * lb.length))) := Hy.out.kept hk
  have Hboth : Hid (HasB v3 (.slice oboth (need (8 * lb.length)) cboth) (mk (fun k => !(bitAt la k || bitAt lb k)) (8 * lb.length))) := Hboth.out.kept hk
  have Hsm : Hid (HasB v3 (.slice osm (need (8 * lb.length)) csm) (mk (fun k => bitAt la k || bitAt lb k) (8 * lb.length))) := Hsm.out.kept hk
  have Hnn : Hid (HasB v3 (.slice onn (need (8 * lb.length)) cnn) (mk (fun k => !(bitAt la k || bitAt lb k)) (8 * lb.length))) := Hnn.out.kept hk
  have Hback : Hid (HasB v3 (.slice oback (need (8 * lb.length)) cback) (mk (fun k => bitAt la k) (8 * lb.length))) := Hback.out.kept hk
  have Hfirst : Hid (HasB v3 (.slice ofirst (need (8 * lb.length)) cfirst) (mk (fun k => bitAt la k) (8 * lb.length))) := Hfirst.out.kept hk
  have Hjust : Hid (HasB v3 (.slice ojust (need (8 * lb.length)) cjust) (mk (fun k => bitAt la k ^^ bitAt lb k) (8 * lb.length))) := Hjust.out.kept hk
  have Hal : Hid (HasB v3 (.slice oal (need (8 * lb.length)) cal) (mk (fun k => bitAt la k && bitAt lb k) (8 * lb.length))) := Hal.out.kept hk
  have Hagain : Hid (HasB v3 (.slice oagain (need (8 * lb.length)) cagain) (mk (fun k => bitAt la k || bitAt lb k) (8 * lb.length))) := Hagain.out.kept hk
  clear hk
  go_wp2
  go_ret
  exact ⟨rfl, HV2.out⟩

set_option maxRecDepth 100000 in
set_option maxHeartbeats 4000000 in
theorem morgan_ge (ao bo : Option Addr) (ca cb : Nat) (la lb : List Nat) (w : World) (hc : ¬ lb.length < la.length) (hA : MapAt w (.slice ao la.length ca) la) (hB : MapAt w (.slice bo lb.length cb) lb) :
    Calls Tryd.prog 25 #[.slice ao la.length ca, .slice bo lb.length cb] w fun e w' => e = .returned (.bool true) ∧ Keeps w w' (fun _ => False) := by
  have hla := hA.len
  have hlb := hB.len
  have Ha : Hid (MapAt w (.slice ao la.length ca) la) := hA
  have Hb : Hid (MapAt w (.slice bo lb.length cb) lb) := hB
  have HK0 : Hid (Keeps w w (fun _ => False)) := Keeps.refl _ _
  have hn1 : 8 * la.length ≤ 8 * la.length := by omega
  have hn2 : 8 * la.length ≤ 8 * lb.length := by omega
  have hn8 := need8 (8 * la.length)
  have HN8 : Hid (8 * la.length ≤ 8 * need (8 * la.length)) := hn8
  clear hA hB hn8
  go_enter Tryd.func25, Tryd.ntmps25
  go_wp2_with fail
  go_at_call 30
  refine (not_m (.slice ao la.length ca) la (fun k => !bitAt la k) (8 * la.length) hn1 (fun k hk => rfl) w (Ha.out.kept HK0.out)).mono ?_
  rintro e w1 ⟨ox, cx, rfl, Hx0, hk⟩
  have HK1 : Hid (Keeps w w1 (fun _ => False)) := HK0.out.trans hk fun _ _ h => h
  have Hx : Hid (HasB w1 (.slice ox (need (8 * la.length)) cx) (mk (fun k => !bitAt la k) (8 * la.length))) := Hx0
  clear Hx0 hk HK0
  go_wp2_with fail
  go_at_call 30
  refine (not_m (.slice bo lb.length cb) lb (fun k => !bitAt lb k) (8 * la.length) hn2 (fun k hk => rfl) w1 (Hb.out.kept HK1.out)).mono ?_
  rintro e w2 ⟨oy, cy, rfl, Hy0, hk⟩
  have HK2 : Hid (Keeps w w2 (fun _ => False)) := HK1.out.trans hk fun _ _ h => h
  have Hx : Hid (HasB w2 (.slice ox (need (8 * la.length)) cx) (mk (fun k => !bitAt la k) (8 * la.length))) := Hx.out.kept hk
  have Hy : Hid (HasB w2 (.slice oy (need (8 * la.length)) cy) (mk (fun k => !bitAt lb k) (8 * la.length))) := Hy0
  clear Hy0 hk HK1
  go_wp2_with fail
  go_at_call 27
  refine (and_m (.slice ox (need (8 * la.length)) cx) (.slice oy (need (8 * la.length)) cy) (mk (fun k => !bitAt la k) (8 * la.length)) (mk (fun k => !bitAt lb k) (8 * la.length)) (fun k => !(bitAt la k || bitAt lb k)) (8 * la.length) (by rw [mk_length]; exact HN8.out) (by rw [mk_length]; exact HN8.out) (fun k hk => by rw [mk_bit _ _ _ hk, mk_bit _ _ _ hk]; cases bitAt la k <;> cases bitAt lb k <;> rfl) w2 Hx.out.map Hy.out.map).mono ?_
  rintro e w3 ⟨oboth, cboth, rfl, Hboth0, hk⟩
  have HK3 : Hid (Keeps w w3 (fun _ => False)) := HK2.out.trans hk fun _ _ h => h
  have Hx : Hid (HasB w3 (.slice ox (need (8 * la.length)) cx) (mk (fun k => !bitAt la k) (8 * la.length))) := Hx.out.kept hk
  have Hy : Hid (HasB w3 (.slice oy (need (8 * la.length)) cy) (mk (fun k => !bitAt lb k) (8 * la.length))) := Hy.out.kept hk
  have Hboth : Hid (HasB w3 (.slice oboth (need (8 * la.length)) cboth) (mk (fun k => !(bitAt la k || bitAt lb k)) (8 * la.length))) := Hboth0
  clear Hboth0 hk HK2
  go_wp2_with fail
  go_at_call 28
  refine (or_m (.slice ao la.length ca) (.slice bo lb.length cb) la lb (fun k => bitAt la k || bitAt lb k) (8 * la.length) hn1 hn2 (fun k hk => rfl) w3 (Ha.out.kept HK3.out) (Hb.out.kept HK3.out)).mono ?_
  rintro e w4 ⟨osm, csm, rfl, Hsm0, hk⟩
  have HK4 : Hid (Keeps w w4 (fun _ => False)) := HK3.out.trans hk fun _ _ h => h
  have Hx : Hid (HasB w4 (.slice ox (need (8 * la.length)) cx) (mk (fun k => !bitAt la k) (8 * la.length))) := Hx.out.kept hk
  have Hy : Hid (HasB w4 (.slice oy (need (8 * la.length)) cy) (mk (fun k => !bitAt lb k) (8 * la.length))) := Hy.out.kept hk
  have Hboth : Hid (HasB w4 (.slice oboth (need (8 * la.length)) cboth) (mk (fun k => !(bitAt la k || bitAt lb k)) (8 * la.length))) := Hboth.out.kept hk
  have Hsm : Hid (HasB w4 (.slice osm (need (8 * la.length)) csm) (mk (fun k => bitAt la k || bitAt lb k) (8 * la.length))) := Hsm0
  clear Hsm0 hk HK3
  go_wp2_with fail
  go_at_call 30
  refine (not_m (.slice osm (need (8 * la.length)) csm) (mk (fun k => bitAt la k || bitAt lb k) (8 * la.length)) (fun k => !(bitAt la k || bitAt lb k)) (8 * la.length) (by rw [mk_length]; exact HN8.out) (fun k hk => by rw [mk_bit _ _ _ hk]) w4 Hsm.out.map).mono ?_
  rintro e w5 ⟨onn, cnn, rfl, Hnn0, hk⟩
  have HK5 : Hid (Keeps w w5 (fun _ => False)) := HK4.out.trans hk fun _ _ h => h
  have Hx : Hid (HasB w5 (.slice ox (need (8 * la.length)) cx) (mk (fun k => !bitAt la k) (8 * la.length))) := Hx.out.kept hk
  have Hy : Hid (HasB w5 (.slice oy (need (8 * la.length)) cy) (mk (fun k => !bitAt lb k) (8 * la.length))) := Hy.out.kept hk
  have Hboth : Hid (HasB w5 (.slice oboth (need (8 * la.length)) cboth) (mk (fun k => !(bitAt la k || bitAt lb k)) (8 * la.length))) := Hboth.out.kept hk
  have Hsm : Hid (HasB w5 (.slice osm (need (8 * la.length)) csm) (mk (fun k => bitAt la k || bitAt lb k) (8 * la.length))) := Hsm.out.kept hk
  have Hnn : Hid (HasB w5 (.slice onn (need (8 * la.length)) cnn) (mk (fun k => !(bitAt la k || bitAt lb k)) (8 * la.length))) := Hnn0
  clear Hnn0 hk HK4
  go_wp2_with fail
  go_at_call 30
  refine (not_m (.slice ox (need (8 * la.length)) cx) (mk (fun k => !bitAt la k) (8 * la.length)) (fun k => bitAt la k) (8 * la.length) (by rw [mk_length]; exact HN8.out) (fun k hk => by rw [mk_bit _ _ _ hk]; cases bitAt la k <;> rfl) w5 Hx.out.map).mono ?_
  rintro e w6 ⟨oback, cback, rfl, Hback0, hk⟩
  have HK6 : Hid (Keeps w w6 (fun _ => False)) := HK5.out.trans hk fun _ _ h => h
  have Hx : Hid (HasB w6 (.slice ox (need (8 * la.length)) cx) (mk (fun k => !bitAt la k) (8 * la.length))) := Hx.out.kept hk
  have Hy : Hid (HasB w6 (.slice oy (need (8 * la.length)) cy) (mk (fun k => !bitAt lb k) (8 * la.length))) := Hy.out.kept hk
  have Hboth : Hid (HasB w6 (.slice oboth (need (8 * la.length)) cboth) (mk (fun k => !(bitAt la k || bitAt lb k)) (8 * la.length))) := Hboth.out.kept hk
  have Hsm : Hid (HasB w6 (.slice osm (need (8 * la.length)) csm) (mk (fun k => bitAt la k || bitAt lb k) (8 * la.length))) := Hsm.out.kept hk
  have Hnn : Hid (HasB w6 (.slice onn (need (8 * la.length)) cnn) (mk (fun k => !(bitAt la k || bitAt lb k)) (8 * la.length))) := Hnn.out.kept hk
  have Hback : Hid (HasB w6 (.slice oback (need (8 * la.length)) cback) (mk (fun k => bitAt la k) (8 * la.length))) := Hback0
  clear Hback0 hk HK5
  go_wp2_with fail
  go_at_call 20
  refine (cut_m (.slice ao la.length ca) la (fun k => bitAt la k) (8 * la.length) hn1 (fun k hk => rfl) w6 (Ha.out.kept HK6.out)).mono ?_
  rintro e w7 ⟨ofirst, cfirst, rfl, Hfirst0, hk⟩
  have HK7 : Hid (Keeps w w7 (fun _ => False)) := HK6.out.trans hk fun _ _ h => h
  have Hx : Hid (HasB w7 (.slice ox (need (8 * la.length)) cx) (mk (fun k => !bitAt la k) (8 * la.length))) := Hx.out.kept hk
  have Hy : Hid (HasB w7 (.slice oy (need (8 * la.length)) cy) (mk (fun k => !bitAt lb k) (8 * la.length))) := Hy.out.kept hk
  have Hboth : Hid (HasB w7 (.slice oboth (need (8 * la.length)) cboth) (mk (fun k => !(bitAt la k || bitAt lb k)) (8 * la.length))) := Hboth.out.kept hk
  have Hsm : Hid (HasB w7 (.slice osm (need (8 * la.length)) csm) (mk (fun k => bitAt la k || bitAt lb k) (8 * la.length))) := Hsm.out.kept hk
  have Hnn : Hid (HasB w7 (.slice onn (need (8 * la.length)) cnn) (mk (fun k => !(bitAt la k || bitAt lb k)) (8 * la.length))) := Hnn.out.kept hk
  have Hback : Hid (HasB w7 (.slice oback (need (8 * la.length)) cback) (mk (fun k => bitAt la k) (8 * la.length))) := Hback.out.kept hk
  have Hfirst : Hid (HasB w7 (.slice ofirst (need (8 * la.length)) cfirst) (mk (fun k => bitAt la k) (8 * la.length))) := Hfirst0
  clear Hfirst0 hk HK6
  go_wp2_with fail
  go_at_call 29
  refine (xor_m (.slice ao la.length ca) (.slice bo lb.length cb) la lb (fun k => bitAt la k ^^ bitAt lb k) (8 * la.length) hn1 hn2 (fun k hk => rfl) w7 (Ha.out.kept HK7.out) (Hb.out.kept HK7.out)).mono ?_
  rintro e w8 ⟨ojust, cjust, rfl, Hjust0, hk⟩
  have HK8 : Hid (Keeps w w8 (fun _ => False)) := HK7.out.trans hk fun _ _ h => h
  have Hx : Hid (HasB w8 (.slice ox (need (8 * la.length)) cx) (mk (fun k => !bitAt la k) (8 * la.length))) := Hx.out.kept hk
  have Hy : Hid (HasB w8 (.slice oy (need (8 * la.length)) cy) (mk (fun k => !bitAt lb k) (8 * la.length))) := Hy.out.kept hk
  have Hboth : Hid (HasB w8 (.slice oboth (need (8 * la.length)) cboth) (mk (fun k => !(bitAt la k || bitAt lb k)) (8 * la.length))) := Hboth.out.kept hk
  have Hsm : Hid (HasB w8 (.slice osm (need (8 * la.length)) csm) (mk (fun k => bitAt la k || bitAt lb k) (8 * la.length))) := Hsm.out.kept hk
  have Hnn : Hid (HasB w8 (.slice onn (need (8 * la.length)) cnn) (mk (fun k => !(bitAt la k || bitAt lb k)) (8 * la.length))) := Hnn.out.kept hk
  have Hback : Hid (HasB w8 (.slice oback (need (8 * la.length)) cback) (mk (fun k => bitAt la k) (8 * la.length))) := Hback.out.kept hk
  have Hfirst : Hid (HasB w8 (.slice ofirst (need (8 * la.length)) cfirst) (mk (fun k => bitAt la k) (8 * la.length))) := Hfirst.out.kept hk
  have Hjust : Hid (HasB w8 (.slice ojust (need (8 * la.length)) cjust) (mk (fun k => bitAt la k ^^ bitAt lb k) (8 * la.length))) := Hjust0
  clear Hjust0 hk HK7
  go_wp2_with fail
  go_at_call 27
  refine (and_m (.slice ao la.length ca) (.slice bo lb.length cb) la lb (fun k => bitAt la k && bitAt lb k) (8 * la.length) hn1 hn2 (fun k hk => rfl) w8 (Ha.out.kept HK8.out) (Hb.out.kept HK8.out)).mono ?_
  rintro e w9 ⟨oal, cal, rfl, Hal0, hk⟩
  have HK9 : Hid (Keeps w w9 (fun _ => False)) := HK8.out.trans hk fun _ _ h => h
  have Hx : Hid (HasB w9 (.slice ox (need (8 * la.length)) cx) (mk (fun k => !bitAt la k) (8 * la.length))) := Hx.out.kept hk
  have Hy : Hid (HasB w9 (.slice oy (need (8 * la.length)) cy) (mk (fun k => !bitAt lb k) (8 * la.length))) := Hy.out.kept hk
  have Hboth : Hid (HasB w9 (.slice oboth (need (8 * la.length)) cboth) (mk (fun k => !(bitAt la k || bitAt lb k)) (8 * la.length))) := Hboth.out.kept hk
  have Hsm : Hid (HasB w9 (.slice osm (need (8 * la.length)) csm) (mk (fun k => bitAt la k || bitAt lb k) (8 * la.length))) := Hsm.out.kept hk
  have Hnn : Hid (HasB w9 (.slice onn (need (8 * la.length)) cnn) (mk (fun k => !(bitAt la k || bitAt lb k)) (8 * la.length))) := Hnn.out.kept hk
  have Hback : Hid (HasB w9 (.slice oback (need (8 * la.length)) cback) (mk (fun k => bitAt la k) (8 * la.length))) := Hback.out.kept hk
  have Hfirst : Hid (HasB w9 (.slice ofirst (need (8 * la.length)) cfirst) (mk (fun k => bitAt la k) (8 * la.length))) := Hfirst.out.kept hk
  have Hjust : Hid (HasB w9 (.slice ojust (need (8 * la.length)) cjust) (mk (fun k => bitAt la k ^^ bitAt lb k) (8 * la.length))) := Hjust.out.kept hk
  have Hal : Hid (HasB w9 (.slice oal (need (8 * la.length)) cal) (mk (fun k => bitAt la k && bitAt lb k) (8 * la.length))) := Hal0
  clear Hal0 hk HK8
  go_wp2_with fail
  go_at_call 29
  refine (xor_m (.slice ojust (need (8 * la.length)) cjust) (.slice oal (need (8 * la.length)) cal) (mk (fun k => bitAt la k ^^ bitAt lb k) (8 * la.length)) (mk (fun k => bitAt la k && bitAt lb k) (8 * la.length)) (fun k => bitAt la k || bitAt lb k) (8 * la.length) (by rw [mk_length]; exact HN8.out) (by rw [mk_length]; exact HN8.out) (fun k hk => by rw [mk_bit _ _ _ hk, mk_bit _ _ _ hk]; cases bitAt la k <;> cases bitAt lb k <;> rfl) w9 Hjust.out.map Hal.out.map).mono ?_
  rintro e w10 ⟨oagain, cagain, rfl, Hagain0, hk⟩
  have HK10 : Hid (Keeps w w10 (fun _ => False)) := HK9.out.trans hk fun _ _ h => h
  have Hx : Hid (HasB w10 (.slice ox (need (8 * la.length)) cx) (mk (fun k => !bitAt la k) (8 * la.length))) := Hx.out.kept hk
  have Hy : Hid (HasB w10 (.slice oy (need (8 * la.length)) cy) (mk (fun k => !bitAt lb k) (8 * la.length))) := Hy.out.kept hk
  have Hboth : Hid (HasB w10 (.slice oboth (need (8 * la.length)) cboth) (mk (fun k => !(bitAt la k || bitAt lb k)) (8 * la.length))) := Hboth.out.kept hk
  have Hsm : Hid (HasB w10 (.slice osm (need (8 * la.length)) csm) (mk (fun k => bitAt la k || bitAt lb k) (8 * la.length))) := Hsm.out.kept hk
  have Hnn : Hid (HasB w10 (.slice onn (need (8 * la.length)) cnn) (mk (fun k => !(bitAt la k || bitAt lb k)) (8 * la.length))) := Hnn.out.kept hk
  have Hback : Hid (HasB w10 (.slice oback (need (8 * la.length)) cback) (mk (fun k => bitAt la k) (8 * la.length))) := Hback.out.kept hk
  have Hfirst : Hid (HasB w10 (.slice ofirst (need (8 * la.length)) cfirst) (mk (fun k => bitAt la k) (8 * la.length))) := Hfirst.out.kept hk
  have Hjust : Hid (HasB w10 (.slice ojust (need (8 * la.length)) cjust) (mk (fun k => bitAt la k ^^ bitAt lb k) (8 * la.length))) := Hjust.out.kept hk
  have Hal : Hid (HasB w10 (.slice oal (need (8 * la.length)) cal) (mk (fun k => bitAt la k && bitAt lb k) (8 * la.length))) := Hal.out.kept hk
  have Hagain : Hid (HasB w10 (.slice oagain (need (8 * la.length)) cagain) (mk (fun k => bitAt la k || bitAt lb k) (8 * la.length))) := Hagain0
  clear Hagain0 hk HK9
  go_wp2_with fail
  go_at_call 9
  refine (alike_m (.slice oboth (need (8 * la.length)) cboth) (.slice onn (need (8 * la.length)) cnn) _ w10 Hboth.out Hnn.out).mono ?_
  rintro e v1 ⟨rfl, hk⟩
  have HV0 : Hid (Keeps w v1 (fun _ => False)) := HK10.out.trans hk fun _ _ h => h
  have Hx : Hid (HasB v1 (.slice ox (need (8 * la.length)) cx) (mk (fun k => !bitAt la k) (8 * la.length))) := Hx.out.kept hk
  have Hy : Hid (HasB v1 (.slice oy (need (8 * la.length)) cy) (mk (fun k => !bitAt lb k) (8 * la.length))) := Hy.out.kept hk
  have Hboth : Hid (HasB v1 (.slice oboth (need (8 * la.length)) cboth) (mk (fun k => !(bitAt la k || bitAt lb k)) (8 * la.length))) := Hboth.out.kept hk
  have Hsm : Hid (HasB v1 (.slice osm (need (8 * la.length)) csm) (mk (fun k => bitAt la k || bitAt lb k) (8 * la.length))) := Hsm.out.kept hk
  have Hnn : Hid (HasB v1 (.slice onn (need (8 * la.length)) cnn) (mk (fun k => !(bitAt la k || bitAt lb k)) (8 * la.length))) := Hnn.out.kept hk
  have Hback : Hid (HasB v1 (.slice oback (need (8 * la.length)) cback) (mk (fun k => bitAt la k) (8 * la.length))) := Hback.out.kept hk
  have Hfirst : Hid (HasB v1 (.slice ofirst (need (8 * la.length)) cfirst) (mk (fun k => bitAt la k) (8 * la.length))) := Hfirst.out.kept hk
  have Hjust : Hid (HasB v1 (.slice ojust (need (8 * la.length)) cjust) (mk (fun k => bitAt la k ^^ bitAt lb k) (8 * la.length))) := Hjust.out.kept hk
  have Hal : Hid (HasB v1 (.slice oal (need (8 * la.length)) cal) (mk (fun k => bitAt la k && bitAt lb k) (8 * la.length))) := Hal.out.kept hk
  have Hagain : Hid (HasB v1 (.slice oagain (need (8 * la.length)) cagain) (mk (fun k => bitAt la k || bitAt lb k) (8 * la.length))) := Hagain.out.kept hk
  clear hk
  go_wp2_with fail
  go_at_call 9
  refine (alike_m (.slice oback (need (8 * la.length)) cback) (.slice ofirst (need (8 * la.length)) cfirst) _ v1 Hback.out Hfirst.out).mono ?_
  rintro e v2 ⟨rfl, hk⟩
  have HV1 : Hid (Keeps w v2 (fun _ => False)) := HV0.out.trans hk fun _ _ h => h
  have Hx : Hid (HasB v2 (.slice ox (need (8 * la.length)) cx) (mk (fun k => !bitAt la k) (8 * la.length))) := Hx.out.kept hk
  have Hy : Hid (HasB v2 (.slice oy (need (8 * la.length)) cy) (mk (fun k => !bitAt lb k) (8 * la.length))) := Hy.out.kept hk
  have Hboth : Hid (HasB v2 (.slice oboth (need (8 * la.length)) cboth) (mk (fun k => !(bitAt la k || bitAt lb k)) (8 * la.length))) := Hboth.out.kept hk
  have Hsm : Hid (HasB v2 (.slice osm (need (8 * la.length)) csm) (mk (fun k => bitAt la k || bitAt lb k) (8 * la.length))) := Hsm.out.kept hk
  have Hnn : Hid (HasB v2 (.slice onn (need (8 * la.length)) cnn) (mk (fun k => !(bitAt la k || bitAt lb k)) (8 * la.length))) := Hnn.out.kept hk
  have Hback : Hid (HasB v2 (.slice oback (need (8 * la.length)) cback) (mk (fun k => bitAt la k) (8 * la.length))) := Hback.out.kept hk
  have Hfirst : Hid (HasB v2 (.slice ofirst (need (8 * la.length)) cfirst) (mk (fun k => bitAt la k) (8 * la.length))) := Hfirst.out.kept hk
  have Hjust : Hid (HasB v2 (.slice ojust (need (8 * la.length)) cjust) (mk (fun k => bitAt la k ^^ bitAt lb k) (8 * la.length))) := Hjust.out.kept hk
  have Hal : Hid (HasB v2 (.slice oal (need (8 * la.length)) cal) (mk (fun k => bitAt la k && bitAt lb k) (8 * la.length))) := Hal.out.kept hk
  have Hagain : Hid (HasB v2 (.slice oagain (need (8 * la.length)) cagain) (mk (fun k => bitAt la k || bitAt lb k) (8 * la.length))) := Hagain.out.kept hk
  clear hk
  go_wp2_with fail
  go_at_call 9
  refine (alike_m (.slice oagain (need (8 * la.length)) cagain) (.slice osm (need (8 * la.length)) csm) _ v2 Hagain.out Hsm.out).mono ?_
  rintro e v3 ⟨rfl, hk⟩
  have HV2 : Hid (Keeps w v3 (fun _ => False)) := HV1.out.trans hk fun _ _ h => h
  have Hx : Hid (HasB v3 (.slice ox (need (8 * la.length)) cx) (mk (fun k => !bitAt la k) (8 * la.length))) := Hx.out.kept hk
  have Hy : Hid (HasB v3 (.slice oy (need (8 * la.length)) cy) (mk (fun k => !bitAt lb k) (8 * la.length))) := Hy.out.kept hk
  have Hboth : Hid (HasB v3 (.slice oboth (need (8 * la.length)) cboth) (mk (fun k => !(bitAt la k || bitAt lb k)) (8 * la.length))) := Hboth.out.kept hk
  have Hsm : Hid (HasB v3 (.slice osm (need (8 * la.length)) csm) (mk (fun k => bitAt la k || bitAt lb k) (8 * la.length))) := Hsm.out.kept hk
  have Hnn : Hid (HasB v3 (.slice onn (need (8 * la.length)) cnn) (mk (fun k => !(bitAt la k || bitAt lb k)) (8 * la.length))) := Hnn.out.kept hk
  have Hback : Hid (HasB v3 (.slice oback (need (8 * la.length)) cback) (mk (fun k => bitAt la k) (8 * la.length))) := Hback.out.kept hk
  have Hfirst : Hid (HasB v3 (.slice ofirst (need (8 * la.length)) cfirst) (mk (fun k => bitAt la k) (8 * la.length))) := Hfirst.out.kept hk
  have Hjust : Hid (HasB v3 (.slice ojust (need (8 * la.length)) cjust) (mk (fun k => bitAt la k ^^ bitAt lb k) (8 * la.length))) := Hjust.out.kept hk
  have Hal : Hid (HasB v3 (.slice oal (need (8 * la.length)) cal) (mk (fun k => bitAt la k && bitAt lb k) (8 * la.length))) := Hal.out.kept hk
  have Hagain : Hid (HasB v3 (.slice oagain (need (8 * la.length)) cagain) (mk (fun k => bitAt la k || bitAt lb k) (8 * la.length))) := Hagain.out.kept hk
  clear hk
  go_wp2
  go_ret
  exact ⟨rfl, HV2.out⟩

theorem morgan_any (va vb : Value) (la lb : List Nat) (w : World) (hA : MapAt w va la) (hB : MapAt w vb lb) :
    Calls Tryd.prog 25 #[va, vb] w fun e w' => e = .returned (.bool true) ∧ Keeps w w' (fun _ => False) := by
  obtain ⟨ao, ca, rfl, _⟩ := hA.form
  obtain ⟨bo, cb, rfl, _⟩ := hB.form
  by_cases hc : lb.length < la.length
  · exact morgan_lt ao bo ca cb la lb w hc hA hB
  · exact morgan_ge ao bo ca cb la lb w hc hA hB
end Go.Proofs.YteppfammimbmcaaDoor.Kit
