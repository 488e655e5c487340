/- The walks of slices.Clone at closes, and of (*period.Periods).Closed. How many months a map has. No walk. -/
import Derived.Test.YtcfgacdcgljbaaaGreatDoorBoF
import Derived.Laws.StructEq
import Derived.Test.YtcfgacdcgljbaaaGreatDoorBoC
import Derived.Sort.KeysCollected
namespace Go.Proofs.YtcfgacdcgljbaaaGreatDoor
open Go.RowKit Go.Maps
theorem nil_cl (w : World) : (binOp BinOp.eql 28 (.slice none 0 0) (.slice none 0 0)).run Tryz.prog w = .ok (.bool true) w := by kernel_rfl
theorem some_cl (a : Addr) (n c : Nat) (w : World) : (binOp BinOp.eql 28 (.slice (some a) n c) (.slice none 0 0)).run Tryz.prog w = .ok (.bool false) w := by kernel_rfl
set_option maxHeartbeats 1000000 in
theorem clone_cl {B : Nat} (l : List Cl) (v : Value) (w : World) (h : w.ownsRow B 71 7 v l.length (l.flatMap clC)) (hl : l.length ≤ 1000) :
    Calls Tryz.prog 65 #[v] w fun r w' => ∃ v' : Value, r = .returned v' ∧ w'.ownsRow w.heap.size 71 7 v' l.length (l.flatMap clC) ∧ Below w.heap.size w w' := by
  obtain ⟨i0, hi, hz0, hz1, hz2⟩ := info_parts cl_info
  rcases own_form h with ⟨hv, hn, _⟩ | ⟨g, cap, hv, _, hgl, _⟩
  · subst hv
    have hz : l = [] := List.length_eq_zero_iff.1 hn
    subst hz
    go_enter Tryz.func65, Tryz.ntmps65
    have hne := nil_cl
    go_wp2
    go_ret
    exact ⟨_, rfl, World.ownsRow_nil _ _ _ _, Below.refl _ _⟩
  · subst hv
    have hcs := h.cells (g := g) rfl
    have HCS : Hid (∀ j u, (l.flatMap clC)[j]? = some u → w.cell? ((⟨g, 0, none⟩ : Addr).add j) = some u) := hcs
    have hfl := flat_len clC 7 clC_len l
    clear h hcs
    have hE : (w.alloc (.cells #[] 71)).ownsRow w.heap.size 71 7 (.slice (some ⟨w.heap.size, 0, none⟩) 0 0) 0 [] :=
      ⟨rfl, Or.inr ⟨w.heap.size, 0, #[], rfl, Nat.le_refl _, heap_alloc_new w _, Nat.le_refl _, Nat.zero_le _, rfl, rfl⟩⟩
    have HE : Hid _ := hE
    clear hE
    go_enter Tryz.func65, Tryz.ntmps65
    have hne := some_cl
    go_wp2_with (first
      | (at_builtin; refine wpList_append_own _ rfl _ _ 28 rfl w.heap.size 71 i0 clZ 7 56 Tryz.underlying28 hi hz0 hz1 hz2 rfl (by decide) _ _ _ rfl HE.out ⟨g, 0, none⟩ l.length cap (l.flatMap clC) rfl (by rw [hfl]) ?d1 ?d2 ?d3 ?d4 (by simp) ?_)
      | go_in)
    case d1 =>
      intro j u hj
      have hadd : (⟨g, 0, none⟩ : Addr).add j = ⟨g, j, none⟩ := by unfold Addr.add; split <;> simp_all
      have := HCS.out j u hj
      rw [hadd] at this
      exact this
    case d2 =>
      intro u e _ he
      exact clC_one e u he
    case d3 => unfold maxLen; omega
    case d4 => omega
    intro v' w3 hown3 hgr _
    have HB3 : Hid (Below w.heap.size w w3) := ((Below.refl w.heap.size w).alloc (Nat.le_refl _) _).grown hgr (by simp) (fun j hj => by simp [Value.ownBlock] at hj; omega)
    clear hgr
    go_wp2
    go_ret
    exact ⟨_, rfl, hown3, HB3.out⟩
set_option maxHeartbeats 1000000 in
theorem closed_any {w : World} {B pp : Nat} {cv : Value} {cs : List Cl} (hp : PerAt w B pp cv cs) (hl : cs.length ≤ 1000) :
    Calls Tryz.prog 21 #[.pointer (some ⟨pp, 0, none⟩)] w fun r w' => ∃ v' : Value, r = .returned v' ∧ w'.ownsRow w.heap.size 71 7 v' cs.length (cs.flatMap clC) ∧ Below w.heap.size w w' := by
  have hcl := clone_cl cs cv w hp.own hl
  have hc := hp.c0
  obtain ⟨ad, cap, hcv⟩ := own_lenN hp.own
  subst hcv
  clear hp
  go_enter Tryz.func21, Tryz.ntmps21
  go_wp2_with fail
  refine hcl.mono ?_
  rintro r w1 ⟨v, rfl, hown, hb⟩
  obtain ⟨ad1, cap1, hv⟩ := own_lenN hown
  subst hv
  go_wp2
  go_ret
  exact ⟨_, rfl, hown, hb⟩
end Go.Proofs.YtcfgacdcgljbaaaGreatDoor
namespace Go.Proofs.YtcfgacdcgljbaaaGreatDoor
open Go.RowKit Go.Maps
def intOfL : Lit → Int
  | .int _ x => x
  | _ => 0
theorem int_keys {W : World} {mb n : Nat} {D : DataW Value} (h : W.ownsMap Tryz.prog 3 heldE mb n D) : ∃ S : List Int, S.Nodup ∧ (∀ x, x ∈ S ↔ has D (.int .i64 x) = true) ∧ Maps.size D = S.length := by
  obtain ⟨es, hD, hpw, _⟩ := h.entries law_intM
  obtain ⟨es', hD', hko⟩ := h.keysOf
  obtain rfl : es = es' := by rw [hD] at hD'; simpa using hD'
  subst hD
  have hk : ∀ p ∈ es, ∃ x : Int, p.1 = .int .i64 x := fun p hp => by
    obtain ⟨v, hv⟩ := hko p hp
    obtain ⟨x, _, hx, _⟩ := Maps.keyOf_int_inv Tryz.underlying3 hv
    exact ⟨x, hx⟩
  refine ⟨es.map fun p => intOfL p.1, ?_, fun x => ?_, ?_⟩
  · refine List.pairwise_map.2 (hpw.imp_of_mem fun {p q} hp' hq' hne e => hne ?_)
    obtain ⟨a, ha⟩ := hk p hp'
    obtain ⟨b, hb⟩ := hk q hq'
    rw [ha, hb] at e ⊢
    have e' : a = b := e
    rw [e']
  · rw [has_eq, List.any_eq_true, List.mem_map]
    constructor
    · rintro ⟨p, hp', rfl⟩
      obtain ⟨a, ha⟩ := hk p hp'
      exact ⟨p, hp', by rw [ha]; exact WideAt.sameKey_self (keyI_key _)⟩
    · rintro ⟨p, hp', hs⟩
      obtain ⟨a, ha⟩ := hk p hp'
      refine ⟨p, hp', ?_⟩
      rw [ha] at hs ⊢
      by_cases e : a = x
      · exact e
      · rw [sameKey_ne (fun c => e (by injection c) : (Lit.int .i64 a) ≠ Lit.int .i64 x)] at hs
        cases hs
  · rw [size_eq, List.length_map]
theorem fmap_size {W : World} {mb n : Nat} {D : DataW Value} {ms : List Mon} {hi : Int} (h : FMap W mb n D ms) (ha : Asc ms hi) : Maps.size D = ms.length := by
  obtain ⟨S, h1, h2, h3⟩ := int_keys h.map
  have hp := perm_of ha h1 (fun x => (h2 x).trans (h.has_ x))
  rw [h3, ← hp.length_eq, List.length_map]
end Go.Proofs.YtcfgacdcgljbaaaGreatDoor
