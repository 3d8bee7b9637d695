/-
  The theorem of once, plainly; the contracts of Short and Entries.
-/
import Derived.Test.YtihohcmocejijaaGreatPr36
namespace Go.Proofs.YtihohcmocejijaaGreat.Bk
open Go.ChangeShapes Go.WideShapes Go.ChangeAt Go.RowKit
theorem findD_put (ds : List Dn) (d : Dn) : findD (putD ds d) d.cl = some d := by
  unfold findD putD
  rw [List.find?_append]
  have h1 : (ds.filter (fun x => decide (x.cl < d.cl))).find? (fun x => decide (x.cl = d.cl)) = none := by
    rw [List.find?_eq_none]
    intro x hx
    have := (List.mem_filter.1 hx).2
    simp at this ⊢
    omega
  rw [h1]
  simp
theorem findD_mem {ds : List Dn} {c : Int} {d : Dn} (h : findD ds c = some d) : d ∈ ds ∧ d.cl = c := by
  unfold findD at h
  exact ⟨List.mem_of_find?_eq_some h, by simpa using List.find?_some h⟩
theorem findD_of_mem {ds : List Dn} {c : Int} {d : Dn} (hM : DnsMay ds) (h : d ∈ ds) (e : d.cl = c) : findD ds c = some d := by
  obtain ⟨k, hk, rfl⟩ := List.getElem_of_mem h
  have := findD_yes (c := c) hM hk (by rw [getDn hk]; exact e)
  rwa [getDn hk] at this
theorem room_mem {ds : List Dn} {c : Int} {x : Dn} (h : x ∈ roomD ds c) : x ∈ ds := by
  unfold roomD at h
  split at h
  · exact h
  · split at h
    · exact (List.eraseIdx_sublist ds _).subset h
    · exact h
theorem findD_note_else {ds : List Dn} {d d' : Dn} {c : Int} (hM : DnsMay ds) (hc : c ≠ d.cl) (h : findD (noteD ds d) c = some d') : findD ds c = some d' := by
  obtain ⟨h1, h2⟩ := findD_mem h
  refine findD_of_mem hM ?_ h2
  unfold noteD at h1
  rcases List.mem_append.1 h1 with h1 | h1
  · exact room_mem (List.mem_filter.1 h1).1
  · rcases List.mem_cons.1 h1 with rfl | h1
    · exact absurd h2.symm hc
    · exact room_mem (List.mem_filter.1 h1).1
def KeptD (s : Shf) (c i : Int) (a : An) : Prop := ∀ d, findD s.ds c = some d → d = ⟨c, i, a⟩
theorem once_first {s : Shf} {e : Ent} (hc : e.cl ≠ 0) (ha : (doS s e).2.cd ≠ 9) : KeptD (doS s e).1 e.cl e.id (doS s e).2 := by
  intro d hd
  have done : (doS s e) = doneS s e → d = ⟨e.cl, e.id, (doS s e).2⟩ := fun hx => by
    rw [hx] at hd ⊢
    unfold doneS at hd ⊢
    simp only at hd ⊢
    have := findD_put (roomD (applyS s e.op).1.ds e.cl) ⟨e.cl, e.id, (applyS s e.op).2⟩
    rw [← noteD_eq (applyS s e.op).1.ds ⟨e.cl, e.id, (applyS s e.op).2⟩] at this
    simp only at this
    rw [this] at hd
    injection hd with hd
    exact hd.symm
  cases hf : findD s.ds e.cl with
  | none => exact done (by unfold doS; rw [if_neg hc, hf])
  | some d0 =>
    by_cases h1 : e.id ≤ d0.id
    · have hx : doS s e = (s, if d0.id = e.id then d0.an else ⟨9, false, 0⟩) := by unfold doS; rw [if_neg hc, hf]; simp only; rw [if_pos h1]
      rw [hx] at ha hd ⊢
      simp only at ha hd ⊢
      by_cases h2 : d0.id = e.id
      · rw [if_pos h2] at ha ⊢
        rw [hf] at hd
        injection hd with hd
        subst hd
        rw [← h2, ← (findD_mem hf).2]
      · rw [if_neg h2] at ha
        exact absurd rfl ha
    · exact done (by unfold doS; rw [if_neg hc, hf]; simp only; rw [if_neg h1])
theorem once_else {s : Shf} {e : Ent} {c i : Int} {a : An} (hM : ShMay s) (hc : e.cl ≠ c) (h : KeptD s c i a) : KeptD (doS s e).1 c i a := by
  intro d hd
  have done : (doS s e) = doneS s e → d = ⟨c, i, a⟩ := fun hx => by
    rw [hx] at hd
    unfold doneS at hd
    simp only [applyS_ds] at hd
    exact h d (findD_note_else hM.2.2 (fun e2 => hc (by simpa using e2.symm)) hd)
  by_cases h0 : e.cl = 0
  · have hx : doS s e = applyS s e.op := by unfold doS; rw [if_pos h0]
    rw [hx, applyS_ds] at hd
    exact h d hd
  · cases hf : findD s.ds e.cl with
    | none => exact done (by unfold doS; rw [if_neg h0, hf])
    | some d0 =>
      by_cases h1 : e.id ≤ d0.id
      · have hx : doS s e = (s, if d0.id = e.id then d0.an else ⟨9, false, 0⟩) := by unfold doS; rw [if_neg h0, hf]; simp only; rw [if_pos h1]
        rw [hx] at hd
        exact h d hd
      · exact done (by unfold doS; rw [if_neg h0, hf]; simp only; rw [if_neg h1])
theorem once_again {s : Shf} {e : Ent} {a : An} (hc : e.cl ≠ 0) (h : KeptD s e.cl e.id a) {k : Nat} (hk : k < s.ds.length) (hcl : (s.ds.getD k dn0).cl = e.cl) (hM : ShMay s) : doS s e = (s, a) := by
  have hf := findD_yes hM.2.2 hk hcl
  have hd := h _ hf
  rw [hd] at hf
  unfold doS
  rw [if_neg hc, hf]
  simp
def ShortP (s : ByteArray) : Prop := s.size ≤ 500
set_option maxRecDepth 60000 in
theorem short_any (o : Opp) (w : World) : Calls Tryz.prog 8 #[opV o] w fun e w' => BoolPost (ShortP o.s) w e w' := by
  obtain ⟨k, s, t, v, f, u, m⟩ := o
  simp only [opV]
  have HP : Hid (BoolPost (ShortP s) w (.returned (.bool (decide ((s.size : Int) ≤ 500)))) (w.alloc (.cells #[.int .i64 k, .string s, .int .i64 t, .int .i64 v, .int .i64 f, .int .i64 u, .int .i64 m] 29))) := Hid.mk9 ⟨below_alloc _ _, _, rfl, by unfold ShortP; simp; omega⟩
  go_enter Tryz.func8, Tryz.ntmps8
  go_wp2
  go_ret
  exact HP.out
def EnsPost (len : Nat) (w : World) (e : Ending) (w' : World) : Prop := Below w.heap.size w w' ∧ ∃ q, e = .returned (.bool q) ∧ (q = true → len ≤ 80)
set_option maxHeartbeats 4000000 in
set_option maxRecDepth 60000 in
theorem entries_any (a : Option Addr) (len cap : Nat) (es : List Ent) (w : World) (h : EnsAt w a len cap es) : Calls Tryz.prog 20 #[.slice a len cap] w fun x w' => EnsPost len w x w' := by
  have hm : (len : Int) ≤ 9223372036854775807 := by have h1 := h.2.1; have h2 := h.2.2.1; unfold maxLen at h2; omega
  have HE := Hid.mk9 h
  clear h
  go_enter Tryz.func20, Tryz.ntmps20
  go_wp2_with fail
  go_loopw [3] (fun si wr => ∃ k : Nat, si = .int .i64 k ∧ k ≤ len ∧ k ≤ 80 ∧ Hid (Below w.heap.size w wr)) (fun si _ => 80 - (intOf si).toNat)
  case atStart => exact ⟨0, rfl, Nat.zero_le _, Nat.zero_le _, Hid.mk9 (Below.refl _ _)⟩
  case round =>
    obtain ⟨k, rfl, hk, h80, HB⟩ := hrel
    by_cases hlt : k < len ∧ k < 80
    · obtain ⟨hlt, hl8⟩ := hlt
      have k1 : (k : Int) < (len : Int) := by omega
      have k2 : (k : Int) < 80 := by omega
      have k0 : (0 : Int) ≤ (k : Int) := by omega
      obtain ⟨b, off, rfl, hbs, hcell⟩ := (HE.out.below HB.out).some (by omega)
      have hc := hcell k hlt
      obtain ⟨e, he⟩ : ∃ e, es.getD k en0 = e := ⟨_, rfl⟩
      rw [he] at hc
      have HS := Hid.mk9 (short_any e.op wr)
      clear hcell he
      obtain ⟨ep, cl, id, ok, os, ot, ov, of, ou, om⟩ := e
      simp only [opV] at HS
      obtain ⟨c0, c1, c2, c3, c4, c5, c6, c7, c8, c9⟩ := hc
      simp only at c0 c1 c2 c3 c4 c5 c6 c7 c8 c9
      go_upto_region 4 with fail
      by_cases hs : ShortP os
      · have HC := Hid.mk9 (HS.out.mono fun _ _ hp => bp_yes hp hs)
        go_wp2_with (go_at_call 8; refine HC.out.mono ?_; rintro e wC ⟨rfl, hbC⟩; have HB2 := Hid.mk9 (below2 HB.out hbC); clear hbC)
        exact ⟨⟨k + 1, by go_num, by omega, by omega, HB2⟩, by simp [intOf]; omega⟩
      · have HC := Hid.mk9 (HS.out.mono fun _ _ hp => bp_no hp hs)
        go_wp2_with (go_at_call 8; refine HC.out.mono ?_; rintro e wC ⟨rfl, hbC⟩; have HB2 := Hid.mk9 (below2 HB.out hbC); clear hbC)
        go_ret
        exact ⟨HB2.out, false, rfl, fun h => by cases h⟩
    · have HP : Hid (EnsPost len w (.returned (.bool (decide ((len : Int) ≤ 80)))) wr) := Hid.mk9 ⟨HB.out, _, rfl, fun h => by simp at h; omega⟩
      have hor : (len : Int) ≤ (k : Int) ∨ ((k : Int) < (len : Int) ∧ (80 : Int) ≤ (k : Int)) := by omega
      clear hlt
      rcases hor with hor | ⟨hor, hor2⟩
      all_goals
        go_wp2_with fail
        go_ret
        exact HP.out
end Go.Proofs.YtihohcmocejijaaGreat.Bk
