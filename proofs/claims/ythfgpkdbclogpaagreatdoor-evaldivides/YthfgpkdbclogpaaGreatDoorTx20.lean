/- 20. -/
import Derived.Test.YthfgpkdbclogpaaGreatDoorTx14
set_option maxHeartbeats 40000000
set_option maxRecDepth 100000
namespace Go.Proofs.YthfgpkdbclogpaaGreatDoor
open Go.RowKit
theorem newB_any (r:Nat)(w:World):Calls Tryz.prog 22 #[ptB r] w fun e w'=>∃ M,e= .returned (.map (some M))∧w.heap.size≤M∧Below w.heap.size w w'∧∃ k E p,MV w' M k E∧k≤1000∧lkE E kRule=some (fnI p)∧RuleAt w.heap.size r w' p:=by
 have hmf:∀ (fn:Fn) (first cap:Array Value) (w:World),(Instr.makeFunc fn first cap).run Tryz.prog w= .ok (.func fn first cap) w:=fun _ _ _ _=>rfl
 have hmm:=@run_makeMap Tryz.prog
 have HB0:Hid (Below w.heap.size w (w.alloc (.cells #[ptB r] 43)).drew):=((Below.refl _ w).alloc (Nat.le_refl _) _).drew
 go_enter Tryz.func22,Tryz.ntmps22
 go_wp2_with fail
 refine wp_region_any (by kernel_rfl) (any_inv (NbI (w.heap.size+1) r w.heap.size (w.alloc (.cells #[ptB r] 43)).drew) (wfB_ok (by kernel_rfl)) ?_ ?_ _ _ _ _ ?_ ?_ ?_ ?_)
 ·intro L a w' hI hL hall
  obtain⟨V,rfl,h1,h2,h3,h4,h5,h6⟩:=hI
  have hg:∀ j,j<32→L.getD j false=true:=fun j hj=>by
   have:=hall j hj
   have hs:j<L.size:=by rw[hL];exact hj
   simpa[Array.getD,hs]using this
  obtain⟨M,k,E,e1,e2,e3,e4,e5⟩:=h4 (hg 0 (by decide))
  obtain⟨p,q1,q2⟩:=e5 (hg 29 (by decide))
  have e6:V 2= .map (some M):=(h6 (hg 31 (by decide))).trans ((h5 (hg 30 (by decide))).trans e1)
  have HZ:Hid (∃ k E p,MV w' M k E∧k≤1000∧lkE E kRule=some (fnI p)∧RuleAt w.heap.size r w' p):=⟨k,E,p,e2,by omega,q1,Nat.le_of_succ_le q2.1,q2.2⟩
  have HB:Hid (Below w.heap.size w w'):=HB0.out.trans (h2.mono (Nat.le_succ _))
  clear h1 h2 h3 h4 h5 h6 hall hg e1 e2 e3 e5 q1 q2
  go_wp2
  go_ret
  exact⟨M,congrArg Ending.returned e6,Nat.le_of_succ_le e4,HB.out,HZ.out⟩
 ·intro L a w' i o hI hL hcl ho hu hd K hK
  have hi:i<32:=(Array.getElem?_eq_some_iff.1 ho).1
  obtain⟨V,rfl,h1,h2,h3,h4,h5,h6⟩:=hI
  have hs0:(w.alloc (.cells #[ptB r] 43)).drew.heap.size=w.heap.size+1:=World.size_alloc _ _
  have hB:w.heap.size+1≤w'.heap.size:=by have:=h2.size;omega
  have hL:L.size=32:=hL
  rcases(show i=0∨i=1∨i=2∨i=3∨i=4∨i=5∨i=6∨i=7∨i=8∨i=9∨i=10∨i=11∨i=12∨i=13∨i=14∨i=15∨i=16∨i=17∨i=18∨i=19∨i=20∨i=21∨i=22∨i=23∨i=24∨i=25∨i=26∨i=27∨i=28∨i=29∨i=30∨i=31 from by omega)with rfl|rfl|rfl|rfl|rfl|rfl|rfl|rfl|rfl|rfl|rfl|rfl|rfl|rfl|rfl|rfl|rfl|rfl|rfl|rfl|rfl|rfl|rfl|rfl|rfl|rfl|rfl|rfl|rfl|rfl|rfl|rfl
  ·obtain rfl:=Option.some.inj (show some _=some o from ho)
   have h30:L.getD 30 false=false:=getD_no fun e=>not_both hu (hcl 30 _ rfl e ⟨0,.data⟩ (by simp) rfl)
   have h31:L.getD 31 false=false:=getD_no fun e=>not_both hu (hcl 30 _ rfl (hcl 31 _ rfl e ⟨30,.data⟩ (by simp) rfl) ⟨0,.data⟩ (by simp) rfl)
   have h29:L.getD 29 false=false:=getD_no fun e=>not_both hu (hcl 29 _ rfl e ⟨0,.data⟩ (by simp) rfl)
   have hz:=hK _ _ (NbI.mk0 h1 h2 h3 h29 h30 h31 hB)
   clear hK hcl hd h3 h4 h5 h6 h1
   go_simp
   exact hz
  ·obtain rfl:=Option.some.inj (show some _=some o from ho)
   have h30:L.getD 30 false=false:=getD_no fun e=>not_both hu (hcl 30 _ rfl e ⟨1,.data⟩ (by simp) rfl)
   have h31:L.getD 31 false=false:=getD_no fun e=>not_both hu (hcl 30 _ rfl (hcl 31 _ rfl e ⟨30,.data⟩ (by simp) rfl) ⟨1,.data⟩ (by simp) rfl)
   have HP:=plain_any 1 (.func 39) #[] #[] w'
   have hz:∀ b w2,Below w'.heap.size w' w2→K ((⟨arrB V,[]⟩:Act).put (some 4) (ptB b)) w2:=fun b w2 hb=>hK _ _ (NbI.val (i:=1) h1 h2 h3 h4 (by decide) (by decide) (by decide) h30 h31 hb hB ⟨b,rfl⟩)
   clear hK hcl hd h3 h4 h5 h6 h1
   go_simp
   refine HP.mono ?_
   rintro e w2 ⟨b,rfl,hb⟩
   exact hz b w2 hb
  ·obtain rfl:=Option.some.inj (show some _=some o from ho)
   have h30:L.getD 30 false=false:=getD_no fun e=>not_both hu (hcl 30 _ rfl e ⟨2,.data⟩ (by simp) rfl)
   have h31:L.getD 31 false=false:=getD_no fun e=>not_both hu (hcl 30 _ rfl (hcl 31 _ rfl e ⟨30,.data⟩ (by simp) rfl) ⟨2,.data⟩ (by simp) rfl)
   have hz:=hK _ _ (NbI.val (i:=2) (v:= .iface 81 (V 4)) h1 h2 h3 h4 (by decide) (by decide) (by decide) h30 h31 (Below.refl _ _) hB ⟨_,rfl⟩)
   clear hK hcl hd h3 h4 h5 h6 h1
   go_simp
   exact hz
  ·obtain rfl:=Option.some.inj (show some _=some o from ho)
   have h30:L.getD 30 false=false:=getD_no fun e=>not_both hu (hcl 30 _ rfl e ⟨3,.data⟩ (by simp) rfl)
   have h31:L.getD 31 false=false:=getD_no fun e=>not_both hu (hcl 30 _ rfl (hcl 31 _ rfl e ⟨30,.data⟩ (by simp) rfl) ⟨3,.data⟩ (by simp) rfl)
   obtain⟨M,k,E,e1,e2,e3,e4,e5⟩:=h4 (hd ⟨0,.data⟩ (by simp) rfl)
   obtain⟨w4,hu4,mv4,hm4⟩:=e2.put Tryz.underlying46 (by unfold maxLen;omega) (s:=⟨#[108,101,110]⟩) (by decide) (V 5)
   have hz:=hK _ _ (NbI.ins (i:=3) (key:=[108,101,110]) (u:=V 5) h1 h2 h3 e1 e2 e3 e4 hL hu (by decide) rfl h30 h31 hB mv4 hm4 (fun q=>by
    rcases setL 29 q with he|q
    ·omega
    ·exact e5 q))
   rw[←e1]at hu4
   clear hK hcl hd h3 h4 h5 h6 h1 e1
   go_simp
   exact hz
  ·obtain rfl:=Option.some.inj (show some _=some o from ho)
   have h30:L.getD 30 false=false:=getD_no fun e=>not_both hu (hcl 30 _ rfl e ⟨4,.data⟩ (by simp) rfl)
   have h31:L.getD 31 false=false:=getD_no fun e=>not_both hu (hcl 30 _ rfl (hcl 31 _ rfl e ⟨30,.data⟩ (by simp) rfl) ⟨4,.data⟩ (by simp) rfl)
   have hz:=hK _ _ (NbI.val (i:=4) (v:= .func (.func 41) #[] #[V 1]) h1 h2 h3 h4 (by decide) (by decide) (by decide) h30 h31 (Below.refl _ _) hB ⟨_,_,rfl⟩)
   clear hK hcl hd h3 h4 h5 h6 h1
   go_simp
   exact hz
  ·obtain rfl:=Option.some.inj (show some _=some o from ho)
   have h30:L.getD 30 false=false:=getD_no fun e=>not_both hu (hcl 30 _ rfl e ⟨5,.data⟩ (by simp) rfl)
   have h31:L.getD 31 false=false:=getD_no fun e=>not_both hu (hcl 30 _ rfl (hcl 31 _ rfl e ⟨30,.data⟩ (by simp) rfl) ⟨5,.data⟩ (by simp) rfl)
   obtain⟨f,c,s1⟩:∃ f c,V 6= .func f #[] c:=h3 4 (by decide) (hd ⟨4,.data⟩ (by simp) rfl)
   have HP:=plain_any 1 f #[] c w'
   rw[←s1]at HP
   have hz:∀ b w2,Below w'.heap.size w' w2→K ((⟨arrB V,[]⟩:Act).put (some 7) (ptB b)) w2:=fun b w2 hb=>hK _ _ (NbI.val (i:=5) h1 h2 h3 h4 (by decide) (by decide) (by decide) h30 h31 hb hB ⟨b,rfl⟩)
   clear hK hcl hd h3 h4 h5 h6 h1 s1
   go_simp
   refine HP.mono ?_
   rintro e w2 ⟨b,rfl,hb⟩
   exact hz b w2 hb
  ·obtain rfl:=Option.some.inj (show some _=some o from ho)
   have h30:L.getD 30 false=false:=getD_no fun e=>not_both hu (hcl 30 _ rfl e ⟨6,.data⟩ (by simp) rfl)
   have h31:L.getD 31 false=false:=getD_no fun e=>not_both hu (hcl 30 _ rfl (hcl 31 _ rfl e ⟨30,.data⟩ (by simp) rfl) ⟨6,.data⟩ (by simp) rfl)
   have hz:=hK _ _ (NbI.val (i:=6) (v:= .iface 81 (V 7)) h1 h2 h3 h4 (by decide) (by decide) (by decide) h30 h31 (Below.refl _ _) hB ⟨_,rfl⟩)
   clear hK hcl hd h3 h4 h5 h6 h1
   go_simp
   exact hz
  ·obtain rfl:=Option.some.inj (show some _=some o from ho)
   have h30:L.getD 30 false=false:=getD_no fun e=>not_both hu (hcl 30 _ rfl e ⟨7,.data⟩ (by simp) rfl)
   have h31:L.getD 31 false=false:=getD_no fun e=>not_both hu (hcl 30 _ rfl (hcl 31 _ rfl e ⟨30,.data⟩ (by simp) rfl) ⟨7,.data⟩ (by simp) rfl)
   obtain⟨M,k,E,e1,e2,e3,e4,e5⟩:=h4 (hd ⟨0,.data⟩ (by simp) rfl)
   obtain⟨w4,hu4,mv4,hm4⟩:=e2.put Tryz.underlying46 (by unfold maxLen;omega) (s:=⟨#[115,116,114]⟩) (by decide) (V 8)
   have hz:=hK _ _ (NbI.ins (i:=7) (key:=[115,116,114]) (u:=V 8) h1 h2 h3 e1 e2 e3 e4 hL hu (by decide) rfl h30 h31 hB mv4 hm4 (fun q=>by
    rcases setL 29 q with he|q
    ·omega
    ·exact e5 q))
   rw[←e1]at hu4
   clear hK hcl hd h3 h4 h5 h6 h1 e1
   go_simp
   exact hz
  ·obtain rfl:=Option.some.inj (show some _=some o from ho)
   have h30:L.getD 30 false=false:=getD_no fun e=>not_both hu (hcl 30 _ rfl e ⟨8,.data⟩ (by simp) rfl)
   have h31:L.getD 31 false=false:=getD_no fun e=>not_both hu (hcl 30 _ rfl (hcl 31 _ rfl e ⟨30,.data⟩ (by simp) rfl) ⟨8,.data⟩ (by simp) rfl)
   have HP:=plain_any 1 (.func 43) #[] #[] w'
   have hz:∀ b w2,Below w'.heap.size w' w2→K ((⟨arrB V,[]⟩:Act).put (some 9) (ptB b)) w2:=fun b w2 hb=>hK _ _ (NbI.val (i:=8) h1 h2 h3 h4 (by decide) (by decide) (by decide) h30 h31 hb hB ⟨b,rfl⟩)
   clear hK hcl hd h3 h4 h5 h6 h1
   go_simp
   refine HP.mono ?_
   rintro e w2 ⟨b,rfl,hb⟩
   exact hz b w2 hb
  ·obtain rfl:=Option.some.inj (show some _=some o from ho)
   have h30:L.getD 30 false=false:=getD_no fun e=>not_both hu (hcl 30 _ rfl e ⟨9,.data⟩ (by simp) rfl)
   have h31:L.getD 31 false=false:=getD_no fun e=>not_both hu (hcl 30 _ rfl (hcl 31 _ rfl e ⟨30,.data⟩ (by simp) rfl) ⟨9,.data⟩ (by simp) rfl)
   have hz:=hK _ _ (NbI.val (i:=9) (v:= .iface 81 (V 9)) h1 h2 h3 h4 (by decide) (by decide) (by decide) h30 h31 (Below.refl _ _) hB ⟨_,rfl⟩)
   clear hK hcl hd h3 h4 h5 h6 h1
   go_simp
   exact hz
  ·obtain rfl:=Option.some.inj (show some _=some o from ho)
   have h30:L.getD 30 false=false:=getD_no fun e=>not_both hu (hcl 30 _ rfl e ⟨10,.data⟩ (by simp) rfl)
   have h31:L.getD 31 false=false:=getD_no fun e=>not_both hu (hcl 30 _ rfl (hcl 31 _ rfl e ⟨30,.data⟩ (by simp) rfl) ⟨10,.data⟩ (by simp) rfl)
   obtain⟨M,k,E,e1,e2,e3,e4,e5⟩:=h4 (hd ⟨0,.data⟩ (by simp) rfl)
   obtain⟨w4,hu4,mv4,hm4⟩:=e2.put Tryz.underlying46 (by unfold maxLen;omega) (s:=⟨#[114,97,110,103,101]⟩) (by decide) (V 10)
   have hz:=hK _ _ (NbI.ins (i:=10) (key:=[114,97,110,103,101]) (u:=V 10) h1 h2 h3 e1 e2 e3 e4 hL hu (by decide) rfl h30 h31 hB mv4 hm4 (fun q=>by
    rcases setL 29 q with he|q
    ·omega
    ·exact e5 q))
   rw[←e1]at hu4
   clear hK hcl hd h3 h4 h5 h6 h1 e1
   go_simp
   exact hz
  ·obtain rfl:=Option.some.inj (show some _=some o from ho)
   have h30:L.getD 30 false=false:=getD_no fun e=>not_both hu (hcl 30 _ rfl e ⟨11,.data⟩ (by simp) rfl)
   have h31:L.getD 31 false=false:=getD_no fun e=>not_both hu (hcl 30 _ rfl (hcl 31 _ rfl e ⟨30,.data⟩ (by simp) rfl) ⟨11,.data⟩ (by simp) rfl)
   have HP:=plain_any 1 (.func 46) #[] #[] w'
   have hz:∀ b w2,Below w'.heap.size w' w2→K ((⟨arrB V,[]⟩:Act).put (some 11) (ptB b)) w2:=fun b w2 hb=>hK _ _ (NbI.val (i:=11) h1 h2 h3 h4 (by decide) (by decide) (by decide) h30 h31 hb hB ⟨b,rfl⟩)
   clear hK hcl hd h3 h4 h5 h6 h1
   go_simp
   refine HP.mono ?_
   rintro e w2 ⟨b,rfl,hb⟩
   exact hz b w2 hb
  ·obtain rfl:=Option.some.inj (show some _=some o from ho)
   have h30:L.getD 30 false=false:=getD_no fun e=>not_both hu (hcl 30 _ rfl e ⟨12,.data⟩ (by simp) rfl)
   have h31:L.getD 31 false=false:=getD_no fun e=>not_both hu (hcl 30 _ rfl (hcl 31 _ rfl e ⟨30,.data⟩ (by simp) rfl) ⟨12,.data⟩ (by simp) rfl)
   have hz:=hK _ _ (NbI.val (i:=12) (v:= .iface 81 (V 11)) h1 h2 h3 h4 (by decide) (by decide) (by decide) h30 h31 (Below.refl _ _) hB ⟨_,rfl⟩)
   clear hK hcl hd h3 h4 h5 h6 h1
   go_simp
   exact hz
  ·obtain rfl:=Option.some.inj (show some _=some o from ho)
   have h30:L.getD 30 false=false:=getD_no fun e=>not_both hu (hcl 30 _ rfl e ⟨13,.data⟩ (by simp) rfl)
   have h31:L.getD 31 false=false:=getD_no fun e=>not_both hu (hcl 30 _ rfl (hcl 31 _ rfl e ⟨30,.data⟩ (by simp) rfl) ⟨13,.data⟩ (by simp) rfl)
   obtain⟨M,k,E,e1,e2,e3,e4,e5⟩:=h4 (hd ⟨0,.data⟩ (by simp) rfl)
   obtain⟨w4,hu4,mv4,hm4⟩:=e2.put Tryz.underlying46 (by unfold maxLen;omega) (s:=⟨#[115,111,114,116,101,100]⟩) (by decide) (V 12)
   have hz:=hK _ _ (NbI.ins (i:=13) (key:=[115,111,114,116,101,100]) (u:=V 12) h1 h2 h3 e1 e2 e3 e4 hL hu (by decide) rfl h30 h31 hB mv4 hm4 (fun q=>by
    rcases setL 29 q with he|q
    ·omega
    ·exact e5 q))
   rw[←e1]at hu4
   clear hK hcl hd h3 h4 h5 h6 h1 e1
   go_simp
   exact hz
  ·obtain rfl:=Option.some.inj (show some _=some o from ho)
   have h30:L.getD 30 false=false:=getD_no fun e=>not_both hu (hcl 30 _ rfl e ⟨14,.data⟩ (by simp) rfl)
   have h31:L.getD 31 false=false:=getD_no fun e=>not_both hu (hcl 30 _ rfl (hcl 31 _ rfl e ⟨30,.data⟩ (by simp) rfl) ⟨14,.data⟩ (by simp) rfl)
   have HP:=plain_any 2 (.func 49) #[] #[] w'
   have hz:∀ b w2,Below w'.heap.size w' w2→K ((⟨arrB V,[]⟩:Act).put (some 13) (ptB b)) w2:=fun b w2 hb=>hK _ _ (NbI.val (i:=14) h1 h2 h3 h4 (by decide) (by decide) (by decide) h30 h31 hb hB ⟨b,rfl⟩)
   clear hK hcl hd h3 h4 h5 h6 h1
   go_simp
   refine HP.mono ?_
   rintro e w2 ⟨b,rfl,hb⟩
   exact hz b w2 hb
  ·obtain rfl:=Option.some.inj (show some _=some o from ho)
   have h30:L.getD 30 false=false:=getD_no fun e=>not_both hu (hcl 30 _ rfl e ⟨15,.data⟩ (by simp) rfl)
   have h31:L.getD 31 false=false:=getD_no fun e=>not_both hu (hcl 30 _ rfl (hcl 31 _ rfl e ⟨30,.data⟩ (by simp) rfl) ⟨15,.data⟩ (by simp) rfl)
   have hz:=hK _ _ (NbI.val (i:=15) (v:= .iface 81 (V 13)) h1 h2 h3 h4 (by decide) (by decide) (by decide) h30 h31 (Below.refl _ _) hB ⟨_,rfl⟩)
   clear hK hcl hd h3 h4 h5 h6 h1
   go_simp
   exact hz
  ·obtain rfl:=Option.some.inj (show some _=some o from ho)
   have h30:L.getD 30 false=false:=getD_no fun e=>not_both hu (hcl 30 _ rfl e ⟨16,.data⟩ (by simp) rfl)
   have h31:L.getD 31 false=false:=getD_no fun e=>not_both hu (hcl 30 _ rfl (hcl 31 _ rfl e ⟨30,.data⟩ (by simp) rfl) ⟨16,.data⟩ (by simp) rfl)
   obtain⟨M,k,E,e1,e2,e3,e4,e5⟩:=h4 (hd ⟨0,.data⟩ (by simp) rfl)
   obtain⟨w4,hu4,mv4,hm4⟩:=e2.put Tryz.underlying46 (by unfold maxLen;omega) (s:=⟨#[106,111,105,110]⟩) (by decide) (V 14)
   have hz:=hK _ _ (NbI.ins (i:=16) (key:=[106,111,105,110]) (u:=V 14) h1 h2 h3 e1 e2 e3 e4 hL hu (by decide) rfl h30 h31 hB mv4 hm4 (fun q=>by
    rcases setL 29 q with he|q
    ·omega
    ·exact e5 q))
   rw[←e1]at hu4
   clear hK hcl hd h3 h4 h5 h6 h1 e1
   go_simp
   exact hz
  ·obtain rfl:=Option.some.inj (show some _=some o from ho)
   have h30:L.getD 30 false=false:=getD_no fun e=>not_both hu (hcl 30 _ rfl e ⟨17,.data⟩ (by simp) rfl)
   have h31:L.getD 31 false=false:=getD_no fun e=>not_both hu (hcl 30 _ rfl (hcl 31 _ rfl e ⟨30,.data⟩ (by simp) rfl) ⟨17,.data⟩ (by simp) rfl)
   have hz:=hK _ _ (NbI.val (i:=17) (v:= .func (.func 53) #[] #[V 1]) h1 h2 h3 h4 (by decide) (by decide) (by decide) h30 h31 (Below.refl _ _) hB ⟨_,_,rfl⟩)
   clear hK hcl hd h3 h4 h5 h6 h1
   go_simp
   exact hz
  ·obtain rfl:=Option.some.inj (show some _=some o from ho)
   have h30:L.getD 30 false=false:=getD_no fun e=>not_both hu (hcl 30 _ rfl e ⟨18,.data⟩ (by simp) rfl)
   have h31:L.getD 31 false=false:=getD_no fun e=>not_both hu (hcl 30 _ rfl (hcl 31 _ rfl e ⟨30,.data⟩ (by simp) rfl) ⟨18,.data⟩ (by simp) rfl)
   obtain⟨f,c,s1⟩:∃ f c,V 15= .func f #[] c:=h3 17 (by decide) (hd ⟨17,.data⟩ (by simp) rfl)
   have HP:=plain_any 1 f #[] c w'
   rw[←s1]at HP
   have hz:∀ b w2,Below w'.heap.size w' w2→K ((⟨arrB V,[]⟩:Act).put (some 16) (ptB b)) w2:=fun b w2 hb=>hK _ _ (NbI.val (i:=18) h1 h2 h3 h4 (by decide) (by decide) (by decide) h30 h31 hb hB ⟨b,rfl⟩)
   clear hK hcl hd h3 h4 h5 h6 h1 s1
   go_simp
   refine HP.mono ?_
   rintro e w2 ⟨b,rfl,hb⟩
   exact hz b w2 hb
  ·obtain rfl:=Option.some.inj (show some _=some o from ho)
   have h30:L.getD 30 false=false:=getD_no fun e=>not_both hu (hcl 30 _ rfl e ⟨19,.data⟩ (by simp) rfl)
   have h31:L.getD 31 false=false:=getD_no fun e=>not_both hu (hcl 30 _ rfl (hcl 31 _ rfl e ⟨30,.data⟩ (by simp) rfl) ⟨19,.data⟩ (by simp) rfl)
   have hz:=hK _ _ (NbI.val (i:=19) (v:= .iface 81 (V 16)) h1 h2 h3 h4 (by decide) (by decide) (by decide) h30 h31 (Below.refl _ _) hB ⟨_,rfl⟩)
   clear hK hcl hd h3 h4 h5 h6 h1
   go_simp
   exact hz
  ·obtain rfl:=Option.some.inj (show some _=some o from ho)
   have h30:L.getD 30 false=false:=getD_no fun e=>not_both hu (hcl 30 _ rfl e ⟨20,.data⟩ (by simp) rfl)
   have h31:L.getD 31 false=false:=getD_no fun e=>not_both hu (hcl 30 _ rfl (hcl 31 _ rfl e ⟨30,.data⟩ (by simp) rfl) ⟨20,.data⟩ (by simp) rfl)
   obtain⟨M,k,E,e1,e2,e3,e4,e5⟩:=h4 (hd ⟨0,.data⟩ (by simp) rfl)
   obtain⟨w4,hu4,mv4,hm4⟩:=e2.put Tryz.underlying46 (by unfold maxLen;omega) (s:=⟨#[103,108,111,98]⟩) (by decide) (V 17)
   have hz:=hK _ _ (NbI.ins (i:=20) (key:=[103,108,111,98]) (u:=V 17) h1 h2 h3 e1 e2 e3 e4 hL hu (by decide) rfl h30 h31 hB mv4 hm4 (fun q=>by
    rcases setL 29 q with he|q
    ·omega
    ·exact e5 q))
   rw[←e1]at hu4
   clear hK hcl hd h3 h4 h5 h6 h1 e1
   go_simp
   exact hz
  ·obtain rfl:=Option.some.inj (show some _=some o from ho)
   have h30:L.getD 30 false=false:=getD_no fun e=>not_both hu (hcl 30 _ rfl e ⟨21,.data⟩ (by simp) rfl)
   have h31:L.getD 31 false=false:=getD_no fun e=>not_both hu (hcl 30 _ rfl (hcl 31 _ rfl e ⟨30,.data⟩ (by simp) rfl) ⟨21,.data⟩ (by simp) rfl)
   have HP:=plain_any 1 (.func 56) #[] #[] w'
   have hz:∀ b w2,Below w'.heap.size w' w2→K ((⟨arrB V,[]⟩:Act).put (some 18) (ptB b)) w2:=fun b w2 hb=>hK _ _ (NbI.val (i:=21) h1 h2 h3 h4 (by decide) (by decide) (by decide) h30 h31 hb hB ⟨b,rfl⟩)
   clear hK hcl hd h3 h4 h5 h6 h1
   go_simp
   refine HP.mono ?_
   rintro e w2 ⟨b,rfl,hb⟩
   exact hz b w2 hb
  ·obtain rfl:=Option.some.inj (show some _=some o from ho)
   have h30:L.getD 30 false=false:=getD_no fun e=>not_both hu (hcl 30 _ rfl e ⟨22,.data⟩ (by simp) rfl)
   have h31:L.getD 31 false=false:=getD_no fun e=>not_both hu (hcl 30 _ rfl (hcl 31 _ rfl e ⟨30,.data⟩ (by simp) rfl) ⟨22,.data⟩ (by simp) rfl)
   have hz:=hK _ _ (NbI.val (i:=22) (v:= .iface 81 (V 18)) h1 h2 h3 h4 (by decide) (by decide) (by decide) h30 h31 (Below.refl _ _) hB ⟨_,rfl⟩)
   clear hK hcl hd h3 h4 h5 h6 h1
   go_simp
   exact hz
  ·obtain rfl:=Option.some.inj (show some _=some o from ho)
   have h30:L.getD 30 false=false:=getD_no fun e=>not_both hu (hcl 30 _ rfl e ⟨23,.data⟩ (by simp) rfl)
   have h31:L.getD 31 false=false:=getD_no fun e=>not_both hu (hcl 30 _ rfl (hcl 31 _ rfl e ⟨30,.data⟩ (by simp) rfl) ⟨23,.data⟩ (by simp) rfl)
   obtain⟨M,k,E,e1,e2,e3,e4,e5⟩:=h4 (hd ⟨0,.data⟩ (by simp) rfl)
   obtain⟨w4,hu4,mv4,hm4⟩:=e2.put Tryz.underlying46 (by unfold maxLen;omega) (s:=⟨#[102,97,105,108]⟩) (by decide) (V 19)
   have hz:=hK _ _ (NbI.ins (i:=23) (key:=[102,97,105,108]) (u:=V 19) h1 h2 h3 e1 e2 e3 e4 hL hu (by decide) rfl h30 h31 hB mv4 hm4 (fun q=>by
    rcases setL 29 q with he|q
    ·omega
    ·exact e5 q))
   rw[←e1]at hu4
   clear hK hcl hd h3 h4 h5 h6 h1 e1
   go_simp
   exact hz
  ·obtain rfl:=Option.some.inj (show some _=some o from ho)
   have h30:L.getD 30 false=false:=getD_no fun e=>not_both hu (hcl 30 _ rfl e ⟨24,.data⟩ (by simp) rfl)
   have h31:L.getD 31 false=false:=getD_no fun e=>not_both hu (hcl 30 _ rfl (hcl 31 _ rfl e ⟨30,.data⟩ (by simp) rfl) ⟨24,.data⟩ (by simp) rfl)
   have hc:w'.cell? ⟨w.heap.size,0,none⟩=some (ptB r):=by
    have hq:=(h2.block w.heap.size (Nat.lt_succ_self _)).trans (heap_alloc_new w (.cells #[ptB r] 43))
    rw[Lib.cell_of_heap hq]
    rfl
   have hz:=hK _ _ (NbI.val (i:=24) (v:=ptB r) h1 h2 h3 h4 (by decide) (by decide) (by decide) h30 h31 (Below.refl _ _) hB rfl)
   clear hK hcl hd h3 h4 h5 h6
   go_simp
   rw[←h1]
   exact hz
  ·obtain rfl:=Option.some.inj (show some _=some o from ho)
   have h30:L.getD 30 false=false:=getD_no fun e=>not_both hu (hcl 30 _ rfl e ⟨25,.data⟩ (by simp) rfl)
   have h31:L.getD 31 false=false:=getD_no fun e=>not_both hu (hcl 30 _ rfl (hcl 31 _ rfl e ⟨30,.data⟩ (by simp) rfl) ⟨25,.data⟩ (by simp) rfl)
   have s1:V 20=ptB r:=h3 24 (by decide) (hd ⟨24,.data⟩ (by simp) rfl)
   have hz:=hK _ _ (NbI.val (i:=25) (v:= .func (.func 58) #[V 20] #[]) h1 h2 h3 h4 (by decide) (by decide) (by decide) h30 h31 (Below.refl _ _) hB (show _=fnR r by rw[s1]))
   clear hK hcl hd h3 h4 h5 h6 h1 s1
   go_simp
   exact hz
  ·obtain rfl:=Option.some.inj (show some _=some o from ho)
   have h30:L.getD 30 false=false:=getD_no fun e=>not_both hu (hcl 30 _ rfl e ⟨26,.data⟩ (by simp) rfl)
   have h31:L.getD 31 false=false:=getD_no fun e=>not_both hu (hcl 30 _ rfl (hcl 31 _ rfl e ⟨30,.data⟩ (by simp) rfl) ⟨26,.data⟩ (by simp) rfl)
   have s1:V 21=fnR r:=h3 25 (by decide) (hd ⟨25,.data⟩ (by simp) rfl)
   have hz:=hK _ _ (NbI.val (i:=26) (v:= .agg #[V 21,.slice none 0 0,.slice none 0 0,.map none,.bool false]) h1 h2 h3 h4 (by decide) (by decide) (by decide) h30 h31 (Below.refl _ _) hB (show _=Value.agg (fnC r) by rw[s1]))
   clear hK hcl hd h3 h4 h5 h6 h1
   go_simp
   rw[←s1]
   exact hz
  ·obtain rfl:=Option.some.inj (show some _=some o from ho)
   have h30:L.getD 30 false=false:=getD_no fun e=>not_both hu (hcl 30 _ rfl e ⟨27,.data⟩ (by simp) rfl)
   have h31:L.getD 31 false=false:=getD_no fun e=>not_both hu (hcl 30 _ rfl (hcl 31 _ rfl e ⟨30,.data⟩ (by simp) rfl) ⟨27,.data⟩ (by simp) rfl)
   have s1:V 22= .agg (fnC r):=h3 26 (by decide) (hd ⟨26,.data⟩ (by simp) rfl)
   have hz:=hK _ _ (NbI.val (i:=27) (v:=ptB w'.heap.size) (w':=w'.alloc (.cells (fnC r) 102)) h1 h2 h3 h4 (by decide) (by decide) (by decide) h30 h31 ((Below.refl _ _).alloc (Nat.le_refl _) _) hB ⟨_,rfl,hB,heap_alloc_new _ _⟩)
   clear hK hcl hd h3 h4 h5 h6 h1
   go_simp
   rw[←s1]
   exact hz
  ·obtain rfl:=Option.some.inj (show some _=some o from ho)
   have h30:L.getD 30 false=false:=getD_no fun e=>not_both hu (hcl 30 _ rfl e ⟨28,.data⟩ (by simp) rfl)
   have h31:L.getD 31 false=false:=getD_no fun e=>not_both hu (hcl 30 _ rfl (hcl 31 _ rfl e ⟨30,.data⟩ (by simp) rfl) ⟨28,.data⟩ (by simp) rfl)
   obtain⟨p,s1,s2⟩:∃ p,V 23=ptB p∧RuleAt (w.heap.size+1) r w' p:=h3 27 (by decide) (hd ⟨27,.data⟩ (by simp) rfl)
   have hz:=hK _ _ (NbI.val (i:=28) (v:= .iface 81 (V 23)) h1 h2 h3 h4 (by decide) (by decide) (by decide) h30 h31 (Below.refl _ _) hB ⟨p,by rw[s1],s2⟩)
   clear hK hcl hd h3 h4 h5 h6 h1 s1
   go_simp
   exact hz
  ·obtain rfl:=Option.some.inj (show some _=some o from ho)
   have h30:L.getD 30 false=false:=getD_no fun e=>not_both hu (hcl 30 _ rfl e ⟨29,.data⟩ (by simp) rfl)
   have h31:L.getD 31 false=false:=getD_no fun e=>not_both hu (hcl 30 _ rfl (hcl 31 _ rfl e ⟨30,.data⟩ (by simp) rfl) ⟨29,.data⟩ (by simp) rfl)
   obtain⟨p,s1,s2⟩:∃ p,V 24=fnI p∧RuleAt (w.heap.size+1) r w' p:=h3 28 (by decide) (hd ⟨28,.data⟩ (by simp) rfl)
   obtain⟨M,k,E,e1,e2,e3,e4,e5⟩:=h4 (hd ⟨0,.data⟩ (by simp) rfl)
   obtain⟨w4,hu4,mv4,hm4⟩:=e2.put Tryz.underlying46 (by unfold maxLen;omega) (s:=⟨#[114,117,108,101]⟩) (by decide) (V 24)
   have hz:=hK _ _ (NbI.ins (i:=29) (key:=[114,117,108,101]) (u:=V 24) h1 h2 h3 e1 e2 e3 e4 hL hu (by decide) rfl h30 h31 hB mv4 hm4 (fun _=>⟨p,by rw[s1];rfl,s2⟩))
   rw[←e1]at hu4
   clear hK hcl hd h3 h4 h5 h6 h1 e1 s1
   go_simp
   exact hz
  ·obtain rfl:=Option.some.inj (show some _=some o from ho)
   have h31:L.getD 31 false=false:=getD_no fun e=>not_both hu (hcl 31 _ rfl e ⟨30,.data⟩ (by simp) rfl)
   have hz:=hK _ _ (NbI.end0 h1 h2 h3 h4 h31)
   clear hK hcl hd h3 h4 h5 h6 h1
   go_simp
   exact hz
  ·obtain rfl:=Option.some.inj (show some _=some o from ho)
   have hz:=hK _ _ (NbI.end1 h1 h2 h3 h4 h5)
   clear hK hcl hd h3 h4 h5 h6 h1
   go_simp
   exact hz
 ·have hf:∀ j,(Array.replicate 32 false).getD j false=true→False:=fun j hj=>by
   simp[Array.getD]at hj
  exact⟨fun j=>(#[ptB r,ptB w.heap.size,.map none]:Array Value).getD j undef,rfl,rfl,Below.refl _ _,fun j _ hj=>(hf j hj).elim,fun hj=>(hf 0 hj).elim,fun hj=>(hf 30 hj).elim,fun hj=>(hf 31 hj).elim⟩
 ·rfl
 ·intro i o _ hj
  exact absurd hj (by simp[Array.getD])
 ·exact cntU_bd _ 32
theorem binary_sec {wb r g S f:Nat}{n m1 m2 m3 x ka xa kb xb:Int}{t ta tb:ByteArray}{va vb v:Value}{p1 p2 q1 q2 a2:Option Addr}{g1 g2 g3 g4 h1 h2 h3 h4 c1 n2 c2:Nat}{w:World}{c:Array Value}
  (h:WkAt w wb r n) (hr:RAt w r c) (hwr:wb≠r) (hS:w.cell? ⟨r,2,none⟩=some (.map (some S)))
  (hk1:KidAt w r g 0 ka xa ta (.slice p1 g1 h1) (.slice p2 g2 h2)) (hk2:KidAt w r g 5 kb xb tb (.slice q1 g3 h3) (.slice q2 g4 h4))
  {bv:Bool} (ht:(t=⟨#[111,114]⟩∧bv=false)∨(t=⟨#[97,110,100]⟩∧bv=true)) (HI:∀ W,Calls Tryz.prog 143 #[va] W fun e w'=>e= .returned (.bool bv)∧w'=W)
  (HK1:Rk w wb r (exV ka xa ta (.slice p1 g1 h1) (.slice p2 g2 h2)) n m1 va) (HK2:Rk w wb r (exV kb xb tb (.slice q1 g3 h3) (.slice q2 g4 h4)) m1 m2 vb)
  (HL:∀ k W,Fr w.heap.size r k w W→(Instr.lookup 50 (.map (some S)) (.string t) false).run Tryz.prog W= .ok (.func (.func f) #[] #[]) W)
  (HE:∀ args W,(callFunc f args).run Tryz.prog W= .ok (.enter f args) W)
  (HS:∀ W,Fr w.heap.size r m2 w W→Calls Tryz.prog f #[va,vb] W fun e w'=>e= .returned v∧Fr W.heap.size r m3 W w'):
  Calls Tryz.prog 182 #[.pointer (some ⟨wb,0,none⟩),exV 14 x t (.slice (some ⟨g,0,none⟩) 2 c1) (.slice a2 n2 c2)] w fun e w'=>e= .returned v∧Fr w.heap.size r m3 w w':=by
 obtain⟨W1,e1⟩:∃ W1,W1=w.alloc (.cells #[.int .i64 14,.int .i64 x,.string t,.slice (some ⟨g,0,none⟩) 2 c1,.slice a2 n2 c2] 162):=⟨_,rfl⟩
 have hb1:Below w.heap.size w W1:=by rw[e1];exact(Below.refl _ w).alloc (Nat.le_refl _) _
 have F1:Fr w.heap.size r n w W1:=Fr.same hr h.fuel hb1
 obtain⟨-,-,k0,k1,k2,k3,k4⟩:=hk1.fr F1
 simp only[Nat.zero_add]at k1 k2 k3 k4
 have HC1:=HK1 _ F1
 have hbox:W1.heap[w.heap.size]? =some (.cells #[.int .i64 14,.int .i64 x,.string t,.slice (some ⟨g,0,none⟩) 2 c1,.slice a2 n2 c2] 162 (0,0)):=by rw[e1];exact heap_alloc_new w _
 have hlt:w.heap.size<W1.heap.size:=by rw[e1];simp
 have hne:w.heap.size≠r:=Nat.ne_of_gt h.lr
 have HX:∀ {W2:World} {k:Int},Fr W1.heap.size r k W1 W2→Fr w.heap.size r k w W2∧W2.cell? ⟨w.heap.size,2,none⟩=some (.string t)∧W2.cell? ⟨w.heap.size,3,none⟩=some (.slice (some ⟨g,0,none⟩) 2 c1)∧W2.cell? ⟨wb,0,none⟩=some (.pointer (some ⟨r,0,none⟩))∧W2.cell? ⟨r,2,none⟩=some (.map (some S)):=by
  intro W2 k f
  have f':=F1.trans h.lr hr (Below.mono f (Nat.le_of_lt hlt))
  refine⟨f',?_,?_,?_,?_⟩
  ·rw[f.other (p:=⟨w.heap.size,2,none⟩) hlt hne];simp[World.cell?,hbox]
  ·rw[f.other (p:=⟨w.heap.size,3,none⟩) hlt hne];simp[World.cell?,hbox]
  ·rw[f'.other (p:=⟨wb,0,none⟩) h.lw hwr];exact h.run
  ·rw[f'.run h.lr (by omega)];exact hS
 have HT:∀ {A B:World} {k l:Int},Fr W1.heap.size r k W1 A→Fr A.heap.size r l A B→Fr W1.heap.size r l W1 B:=fun f u=>Fr.trans (Nat.lt_trans h.lr hlt) (F1.at h.lr hr) f (Below.mono u (Fr.size f))
 subst e1
 rcases ht with⟨rfl,rfl⟩|⟨rfl,rfl⟩
 all_goals go_enter Tryz.func182,Tryz.ntmps182
 all_goals go_wp2_with fail
 all_goals refine HC1.mono ?_
 all_goals rintro e W2 ⟨rfl,hb⟩
 all_goals obtain⟨F2,y2,y3,y4,y5⟩:=HX hb
 all_goals obtain⟨-,-,j0,j1,j2,j3,j4⟩:=hk2.fr F2
 all_goals simp only[Nat.reduceAdd]at j0 j1 j2 j3 j4
 all_goals have F2d:Fr w.heap.size r m1 w W2.drew:=F2.below (Below.refl _ W2).drew
 all_goals have HC2:=HK2 _ F2d
 all_goals have HLk:=HL _ _ F2d
 all_goals have f2d:=Fr.below hb (Below.refl _ W2).drew
 all_goals clear hk1 HK1 HC1 hbox k0 k1 k2 k3 k4
 all_goals clear HK2
 all_goals go_wp2_with fail
 all_goals refine(HI _).mono ?_
 all_goals rintro e w' ⟨rfl,rfl⟩
 all_goals go_wp2_with fail
 all_goals first
  |go_region_held3 (fun W=>W.cell? ⟨w.heap.size,2,none⟩=some (.string ⟨#[111,114]⟩)∧W.cell? ⟨w.heap.size,3,none⟩=some (.slice (some ⟨g,0,none⟩) 2 c1)∧W.cell? ⟨wb,0,none⟩=some (.pointer (some ⟨r,0,none⟩))∧W.cell? ⟨r,2,none⟩=some (.map (some S))∧W.cell? ⟨g,5,none⟩=some (.int .i64 kb)∧W.cell? ⟨g,6,none⟩=some (.int .i64 xb)∧W.cell? ⟨g,7,none⟩=some (.string tb)∧W.cell? ⟨g,8,none⟩=some (.slice q1 g3 h3)∧W.cell? ⟨g,9,none⟩=some (.slice q2 g4 h4)∧(Instr.lookup 50 (.map (some S)) (.string ⟨#[111,114]⟩) false).run Tryz.prog W= .ok (.func (.func f) #[] #[]) W)
  (first|(simp[go_sem, *];done)|(go_split_ands;constructor<;>assumption))
  (first
   |(go_at_call_of 141 (Value.pointer (some ⟨wb,0,none⟩));refine HC2.mono ?_;rintro e W3 ⟨rfl,hb3⟩;have f3:=HT f2d hb3;obtain⟨F3,z2,z3,z4,z5⟩:=HX f3;have HL3:=HL _ _ F3;have HS3:=HS _ F3;obtain⟨-,-,i0,i1,i2,i3,i4⟩:=hk2.fr F3;simp only[Nat.reduceAdd]at i0 i1 i2 i3 i4)
   |(refine HS3.mono ?_;rintro e W4 ⟨rfl,hb4⟩;have f4:=HT f3 hb4;obtain⟨F4,u2,u3,u4,u5⟩:=HX f4;have HL4:=HL _ _ F4;obtain⟨-,-,l0,l1,l2,l3,l4⟩:=hk2.fr F4;simp only[Nat.reduceAdd]at l0 l1 l2 l3 l4))
  |go_region_held3 (fun W=>W.cell? ⟨w.heap.size,2,none⟩=some (.string ⟨#[97,110,100]⟩)∧W.cell? ⟨w.heap.size,3,none⟩=some (.slice (some ⟨g,0,none⟩) 2 c1)∧W.cell? ⟨wb,0,none⟩=some (.pointer (some ⟨r,0,none⟩))∧W.cell? ⟨r,2,none⟩=some (.map (some S))∧W.cell? ⟨g,5,none⟩=some (.int .i64 kb)∧W.cell? ⟨g,6,none⟩=some (.int .i64 xb)∧W.cell? ⟨g,7,none⟩=some (.string tb)∧W.cell? ⟨g,8,none⟩=some (.slice q1 g3 h3)∧W.cell? ⟨g,9,none⟩=some (.slice q2 g4 h4)∧(Instr.lookup 50 (.map (some S)) (.string ⟨#[97,110,100]⟩) false).run Tryz.prog W= .ok (.func (.func f) #[] #[]) W)
  (first|(simp[go_sem, *];done)|(go_split_ands;constructor<;>assumption))
  (first
   |(go_at_call_of 141 (Value.pointer (some ⟨wb,0,none⟩));refine HC2.mono ?_;rintro e W3 ⟨rfl,hb3⟩;have f3:=HT f2d hb3;obtain⟨F3,z2,z3,z4,z5⟩:=HX f3;have HL3:=HL _ _ F3;have HS3:=HS _ F3;obtain⟨-,-,i0,i1,i2,i3,i4⟩:=hk2.fr F3;simp only[Nat.reduceAdd]at i0 i1 i2 i3 i4)
   |(refine HS3.mono ?_;rintro e W4 ⟨rfl,hb4⟩;have f4:=HT f3 hb4;obtain⟨F4,u2,u3,u4,u5⟩:=HX f4;have HL4:=HL _ _ F4;obtain⟨-,-,l0,l1,l2,l3,l4⟩:=hk2.fr F4;simp only[Nat.reduceAdd]at l0 l1 l2 l3 l4))
 all_goals go_wp2
 all_goals go_ret
 all_goals exact⟨rfl,F4⟩
theorem binary_dec {wb r g S:Nat}{n m1 x ka xa:Int}{t ta:ByteArray}{va:Value}{p1 p2 a2:Option Addr}{g1 g2 h1 h2 c1 n2 c2:Nat}{w:World}{c:Array Value}
  (h:WkAt w wb r n) (hr:RAt w r c) (hwr:wb≠r) (hS:w.cell? ⟨r,2,none⟩=some (.map (some S)))
  (hk1:KidAt w r g 0 ka xa ta (.slice p1 g1 h1) (.slice p2 g2 h2))
  {bv:Bool} (ht:(t=⟨#[111,114]⟩∧bv=true)∨(t=⟨#[97,110,100]⟩∧bv=false)) (HI:∀ W,Calls Tryz.prog 143 #[va] W fun e w'=>e= .returned (.bool bv)∧w'=W)
  (HK1:Rk w wb r (exV ka xa ta (.slice p1 g1 h1) (.slice p2 g2 h2)) n m1 va):
  Calls Tryz.prog 182 #[.pointer (some ⟨wb,0,none⟩),exV 14 x t (.slice (some ⟨g,0,none⟩) 2 c1) (.slice a2 n2 c2)] w fun e w'=>e= .returned va∧Fr w.heap.size r m1 w w':=by
 obtain⟨W1,e1⟩:∃ W1,W1=w.alloc (.cells #[.int .i64 14,.int .i64 x,.string t,.slice (some ⟨g,0,none⟩) 2 c1,.slice a2 n2 c2] 162):=⟨_,rfl⟩
 have hb1:Below w.heap.size w W1:=by rw[e1];exact(Below.refl _ w).alloc (Nat.le_refl _) _
 have F1:Fr w.heap.size r n w W1:=Fr.same hr h.fuel hb1
 obtain⟨-,-,k0,k1,k2,k3,k4⟩:=hk1.fr F1
 simp only[Nat.zero_add]at k1 k2 k3 k4
 have HC1:=HK1 _ F1
 have hbox:W1.heap[w.heap.size]? =some (.cells #[.int .i64 14,.int .i64 x,.string t,.slice (some ⟨g,0,none⟩) 2 c1,.slice a2 n2 c2] 162 (0,0)):=by rw[e1];exact heap_alloc_new w _
 have hlt:w.heap.size<W1.heap.size:=by rw[e1];simp
 have hne:w.heap.size≠r:=Nat.ne_of_gt h.lr
 have HX:∀ {W2:World} {k:Int},Fr W1.heap.size r k W1 W2→Fr w.heap.size r k w W2∧W2.cell? ⟨w.heap.size,2,none⟩=some (.string t)∧W2.cell? ⟨w.heap.size,3,none⟩=some (.slice (some ⟨g,0,none⟩) 2 c1)∧W2.cell? ⟨wb,0,none⟩=some (.pointer (some ⟨r,0,none⟩))∧W2.cell? ⟨r,2,none⟩=some (.map (some S)):=by
  intro W2 k f
  have f':=F1.trans h.lr hr (Below.mono f (Nat.le_of_lt hlt))
  refine⟨f',?_,?_,?_,?_⟩
  ·rw[f.other (p:=⟨w.heap.size,2,none⟩) hlt hne];simp[World.cell?,hbox]
  ·rw[f.other (p:=⟨w.heap.size,3,none⟩) hlt hne];simp[World.cell?,hbox]
  ·rw[f'.other (p:=⟨wb,0,none⟩) h.lw hwr];exact h.run
  ·rw[f'.run h.lr (by omega)];exact hS
 have HT:∀ {A B:World} {k l:Int},Fr W1.heap.size r k W1 A→Fr A.heap.size r l A B→Fr W1.heap.size r l W1 B:=fun f u=>Fr.trans (Nat.lt_trans h.lr hlt) (F1.at h.lr hr) f (Below.mono u (Fr.size f))
 subst e1
 rcases ht with⟨rfl,rfl⟩|⟨rfl,rfl⟩
 all_goals go_enter Tryz.func182,Tryz.ntmps182
 all_goals go_wp2_with fail
 all_goals refine HC1.mono ?_
 all_goals rintro e W2 ⟨rfl,hb⟩
 all_goals obtain⟨F2,y2,y3,y4,y5⟩:=HX hb
 all_goals clear hk1 HK1 HC1 hbox k0 k1 k2 k3 k4
 all_goals go_wp2_with fail
 all_goals refine(HI _).mono ?_
 all_goals rintro e w' ⟨rfl,rfl⟩
 all_goals go_wp2
 all_goals go_ret
 all_goals exact⟨rfl,F2⟩
end Go.Proofs.YthfgpkdbclogpaaGreatDoor
