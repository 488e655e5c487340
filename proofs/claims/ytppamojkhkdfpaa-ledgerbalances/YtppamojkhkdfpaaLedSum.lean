/- Balances together are nothing. -/
import Derived.Test.YtppamojkhkdfpaaLedMap
import Derived.Test.YtppamojkhkdfpaaLedM
namespace Go.Proofs.Ytppamojkhkdfpaa
open Go.RowKit
/-- All balances together. -/
def sumB (f : ByteArray → Int) : List ByteArray → Int
  | [] => 0
  | k :: ks => f k + sumB f ks
theorem sumB_add (f g : ByteArray → Int) : ∀ ks, sumB (fun k => f k + g k) ks = sumB f ks + sumB g ks
  | [] => rfl
  | k :: ks => by simp only [sumB, sumB_add f g ks]; omega
theorem sumB_zero : ∀ ks : List ByteArray, sumB (fun _ => 0) ks = 0
  | [] => rfl
  | _ :: ks => by simp only [sumB, sumB_zero ks]; rfl
theorem sumB_one (x : ByteArray) (n : Int) : ∀ ks : List ByteArray, ks.Nodup → x ∈ ks → sumB (fun k => if x = k then n else 0) ks = n
  | [], _, h => absurd h (List.not_mem_nil)
  | k :: ks, hn, h => by
    rw [List.nodup_cons] at hn
    by_cases e : x = k
    · subst e
      have : sumB (fun k => if x = k then n else 0) ks = 0 := by
        have : ∀ l : List ByteArray, x ∉ l → sumB (fun k => if x = k then n else 0) l = 0 := fun l => by
          induction l with
          | nil => intro _; rfl
          | cons a l ih =>
            intro h
            rw [List.mem_cons, not_or] at h
            simp only [sumB, if_neg h.1, ih h.2]
            rfl
        exact this ks hn.1
      simp only [sumB, if_true, this]
      omega
    · have hm : x ∈ ks := by
        rcases List.mem_cons.1 h with h | h
        · exact absurd h e
        · exact h
      simp only [sumB, if_neg e, sumB_one x n ks hn.2 hm]
      omega
theorem sumB_sig (p : Pst) (ks : List ByteArray) (hn : ks.Nodup) (h1 : p.deb ∈ ks) (h2 : p.cre ∈ ks) : sumB (fun k => sig k p) ks = 0 := by
  have e : (fun k => sig k p) = fun k => (if p.deb = k then p.amt else 0) + (if p.cre = k then -p.amt else 0) := by
    funext k
    unfold sig
    by_cases h : p.cre = k <;> simp [h] <;> omega
  rw [e, sumB_add, sumB_one _ _ _ hn h1, sumB_one _ _ _ hn h2]
  omega
theorem sumB_sigs (ks : List ByteArray) (hn : ks.Nodup) : ∀ ps : List Pst, (∀ x ∈ accs ps, x ∈ ks) → sumB (fun k => sigs k ps) ks = 0
  | [], _ => sumB_zero ks
  | p :: ps, h => by
    have e : accs (p :: ps) = p.deb :: p.cre :: accs ps := rfl
    rw [e] at h
    simp only [sigs]
    rw [sumB_add, sumB_sig p ks hn (h _ (List.mem_cons_self ..)) (h _ (List.mem_cons_of_mem _ (List.mem_cons_self ..))), sumB_sigs ks hn ps (fun x hx => h x (List.mem_cons_of_mem _ (List.mem_cons_of_mem _ hx)))]
    rfl
/-- Added one behind the other, as Go adds. -/
theorem sumB_wrap (f : ByteArray → Int) : ∀ (ks : List ByteArray) (n : Int), ks.foldl (fun a k => wrap64 (a + wrap64 (f k))) (wrap64 n) = wrap64 (n + sumB f ks)
  | [], n => by simp [sumB]
  | k :: ks, n => by
    simp only [List.foldl_cons]
    rw [wrap_add, wrap_add', sumB_wrap f ks]
    simp only [sumB]
    congr 1; omega
theorem sum_all (ps : List Pst) (ks : List ByteArray) (hn : ks.Nodup) (h : ∀ x ∈ accs ps, x ∈ ks) : ks.foldl (fun a k => wrap64 (a + bal k 0 ps)) 0 = 0 := by
  have e : (fun (a : Int) (k : ByteArray) => wrap64 (a + bal k 0 ps)) = fun a k => wrap64 (a + wrap64 (sigs k ps)) := by
    funext a k; rw [bal_zero]
  have := sumB_wrap (fun k => sigs k ps) ks 0
  rw [sumB_sigs ks hn ps h] at this
  rw [e]
  simpa [wrap64] using this
end Go.Proofs.Ytppamojkhkdfpaa
