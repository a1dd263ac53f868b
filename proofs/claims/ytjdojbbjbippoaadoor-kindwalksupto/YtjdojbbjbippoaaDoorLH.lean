import Derived.Test.YtjdojbbjbippoaaDoorLG
import Derived.Test.YtjdojbbjbippoaaDoorHC
namespace Go.Proofs.YtjdojbbjbippoaaDoor.Kit
open Go.RowKit Go.Shelf Go.Deep

theorem idx_early {l : List FT} {nm : ByteArray} {i : Nat} (h : ∃ j fj, j < i ∧ l[j]? = some fj ∧ sEq fj.name nm = true) : idxOf l nm ≠ i := by
  obtain ⟨j, fj, hj, hl, hq⟩ := h
  intro e
  obtain ⟨hjl, rfl⟩ := List.getElem?_eq_some_iff.1 hl
  unfold idxOf at e
  split at e
  · rename_i hlt
    have e2 : l.findIdx (fun f => sEq f.name nm) = i := by omega
    have := List.not_of_lt_findIdx (p := fun f : FT => sEq f.name nm) (xs := l) (i := j) (by omega)
    simp [hq] at this
  · omega
theorem sEq_self (a : ByteArray) : sEq a a = true := by simp [sEq]

theorem wrongR_any (S : Nat → Prop) (vo : Option Addr) (vc : Nat) (out : List LS) (k : Nat) (hk : k < out.length) (hlen : out.length ≤ 257) (w : World) (hO : OutAt S w (.slice vo out.length vc) out) (hA : AllR (out.take k)) (hS : ∀ b, S b → b < w.heap.size) :
    Calls Tryd.prog 37 #[.slice vo out.length vc, .int .i64 (k : Int)] w fun e w' => e = .returned (.int .i64 (wrongE out[k] k (tkL (out.take k)))) ∧ Gr w w' := by
  obtain ⟨g, rfl, hvc, hall⟩ := hO.ten (by omega)
  obtain ⟨wb, wc, fo, fc, ao, ca, ht, hn⟩ := hall k hk
  obtain ⟨D, hrow⟩ := hn.row
  obtain ⟨E, hkids⟩ := hn.kids
  have hix := hn.ix
  have hle := hn.le
  have hfe : out[k].list[out[k].idx]'hix = out[k].fld := by
    unfold LS.fld
    rw [List.getElem?_eq_getElem hix]
    rfl
  have hbig : out[k].list.length ≤ 1000000000000 := hrow.len
  unfold wrongE
  refine wrongR_walk g out.length vc k out[k].path.length wb wc out[k].fld fo fc ao out[k].idx ca out[k].inD out[k].list (fun j => (((out[j]?).map fun s => s.fld.kind).getD 0, ((out[j]?).map fun s => s.fld.id).getD 0)) _ _ w hk hlen hvc (by omega) (by omega) hkids.len ht.c0 ht.c1 ht.c2 ht.c3 ht.c4 ht.c5 ht.c6 ht.c7 ht.c8 ht.c9 ?_ idx_early ?_ ?_ ?_ ?_ ?_ ?_ ?_
  · intro j hj
    obtain ⟨b, o, e, _, hc⟩ := hrow.2 (fun e => by rw [e] at hix; simp at hix)
    obtain ⟨ao', ca', h1, _⟩ := hc j (by omega)
    exact ⟨b, o, _, ao', ca', e, h1, List.getElem?_eq_getElem (by omega)⟩
  · intro h
    refine idxOf_some hix (fun j hj hlt => h j _ hlt (List.getElem?_eq_getElem hj)) ?_
    rw [hfe]
    exact sEq_self _
  · intro j hj
    obtain ⟨wb', wc', fo', fc', ao', ca', h1, h2⟩ := hall j (by omega)
    exact ⟨out[j], wb', wc', fo', fc', ao', ca', h1, by simp [List.getElem?_eq_getElem (show j < out.length by omega)]⟩
  · rintro - - ⟨j, hj, h1, h2⟩
    have hjl : j < out.length := by omega
    simp only [List.getElem?_eq_getElem hjl, Option.map_some, Option.getD_some] at h1 h2
    unfold tkL
    rw [List.any_eq_true]
    refine ⟨out[j], ?_, by simp [h1, h2]⟩
    rw [List.mem_take_iff_getElem]
    exact ⟨j, by omega, rfl⟩
  · intro htab h19 h
    rw [Bool.eq_false_iff]
    intro ht
    unfold tkL at ht
    rw [List.any_eq_true] at ht
    obtain ⟨s, hs, hq⟩ := ht
    rw [List.mem_take_iff_getElem] at hs
    obtain ⟨j, hj, rfl⟩ := hs
    have hjl : j < out.length := by omega
    have hjk : j < k := by omega
    simp only [Bool.and_eq_true, decide_eq_true_eq] at hq
    refine h j hjk ?_
    simp only [List.getElem?_eq_getElem hjl, Option.map_some, Option.getD_some]
    refine ⟨hq.1, ?_⟩
    have h1 := hA j (by simp; omega)
    have h2 : wrongE out[j] j (tkL ((out.take k).take j)) = 0 := by simpa using h1
    unfold wrongE at h2
    have h3 := (tab_kids (wr_tab h2)).1 hq.1
    have h4 := (tab_kids htab).1 h19
    omega
  · exact fun W g' => shaped_any out[k].fld fo fc W hkids.len
  · exact fun htab W g' => nulls_any out[k].fld fo fc S E W (hkids.kept fun b hb => g'.block b (hS b hb) id) (tab_kids htab).2
  · intro htab h19
    have hne := ((tab_kids htab).1 h19).1
    obtain ⟨b, o, e, hc⟩ := kids_cell hkids hne
    exact ⟨b, o, e, List.length_pos_iff.2 hne, hc⟩
end Go.Proofs.YtjdojbbjbippoaaDoor.Kit
