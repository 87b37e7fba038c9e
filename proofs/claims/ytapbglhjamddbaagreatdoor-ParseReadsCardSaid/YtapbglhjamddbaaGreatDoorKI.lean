/- A part of the proof. -/
import Derived.Test.YtapbglhjamddbaaGreatDoorKH
import Derived.Test.YtapbglhjamddbaaGreatDoorKv
import Derived.Test.YtapbglhjamddbaaGreatDoorPkJ
import Derived.Test.YtapbglhjamddbaaGreatDoorKG
import Derived.Test.YtapbglhjamddbaaGreatDoorHd
namespace Go.Proofs.YtapbglhjamddbaaGreatDoor
open Go.RowKit
set_option maxRecDepth 100000
set_option maxHeartbeats 4000000 in
theorem rone_text (s:ByteArray) (k:Nat) (w:World) (hk:k<s.size) (hs:s.size≤2000) (hb:s.data.toList[k]?=some 39) :
  Calls Tryz.prog 27 #[.string s,.int .i64 (k:Int)] w fun e w'=>OneOut (oneText (s.data.toList.drop (k+1))) k e∧Below w.heap.size w w':=by
 have hsl:s.data.toList.length=s.size:=Array.length_toList
 obtain⟨p4,p5⟩:=byt_data hb
 have eb:((s[k]'p4).toNat:Int)=39:=(byt_at s k p4).trans p5
 clear p5 hb
 go_enter Tryz.func27,Tryz.ntmps27
 go_wp2_with fail
 refine (rletter_any 39 _ rfl _).mono ?_
 rintro e w9 ⟨rfl,hw9⟩
 rw[hw9]
 clear hw9
 rw[show isLetter 39=false from rfl]
 go_wp2_with fail
 refine (rdigit_any 39 _ rfl _).mono ?_
 rintro e w9 ⟨rfl,hw9⟩
 rw[hw9]
 clear hw9
 rw[show isDigit 39=false from rfl]
 go_wp2_with fail
 have R0:=zH (RS.new w 4 0 k ⟨#[]⟩ 82)
 obtain⟨W,hW⟩:∃ W,W=((w.alloc (.cells #[.int .i64 0,.int .i64 0,.int .i64 0,.string ⟨#[]⟩] 82)).alloc (.cells #[.int .i64 4,.int .i64 0,.int .i64 (k:Int),.string ⟨#[]⟩] 82)):=⟨_,rfl⟩
 rw[← hW] at R0
 rw[← hW]
 clear hW
 obtain⟨r0,hr0⟩:∃ r0,r0=textOf (s.data.toList.drop (k+1)):=⟨_,rfl⟩
 have HR0:=zH hr0
 clear hr0
 go_loopw [10,16] (fun vj vo wr=>∃ (j:Nat) (O:Bs),vj=.int .i64 j∧k+1≤j∧j≤s.size∧O.length≤j∧Hid (OwnB wr W.heap.size vo (toJ O)∧Below W.heap.size W wr∧r0=(textOf (s.data.toList.drop j)).map fun x=>(O++x.1,x.2+(j - (k+1))))) (fun vj _ _=>s.size - (intOf vj).toNat)
 case atStart=>exact⟨k+1,[],by go_num,by omega,by omega,by simp,OwnB.nil _ _,Below.refl _ _,by rw[HR0.out,Nat.sub_self];cases textOf (s.data.toList.drop (k+1)) <;> rfl⟩
 case round =>
  obtain⟨j,O,rfl,hj1,hj2,hO,HH⟩:=hrel
  obtain⟨V,hV⟩:∃ V,V=wr:=⟨_,rfl⟩
  rw[← hV] at HH
  rw[← hV]
  clear hV
  have RV:=zH (R0.out.ext HH.out.2.1)
  by_cases hlt:j<s.size
  ·obtain⟨c,hc⟩:∃ c,s.data.toList[j]?=some c:=⟨_,List.getElem?_eq_getElem (by rw[hsl];exact hlt)⟩
   obtain⟨q4,q5⟩:=byt_data hc
   have ec:=(byt_at s j q4).trans q5
   have hdc:s.data.toList.drop j=c :: s.data.toList.drop (j+1):=by
    obtain⟨h1,rfl⟩:=List.getElem?_eq_some_iff.1 hc
    exact List.drop_eq_getElem_cons h1
   by_cases h39:c=39
   ·subst h39
    have ec2:((s[j]'q4).toNat:Int)=39:=ec
    clear ec
    have HO:=HH.out.1
    by_cases hj1s:j+1<s.size
    ·obtain⟨d,hd⟩:∃ d,s.data.toList[j+1]?=some d:=⟨_,List.getElem?_eq_getElem (by rw[hsl];exact hj1s)⟩
     obtain⟨e4,e5⟩:=byt_data hd
     have ed:=(byt_at s (j+1) e4).trans e5
     have hne:((j:Int)+1 == (s.size:Int))=false:=by rw[beq_eq_false_iff_ne];omega
     have hdd:s.data.toList.drop (j+1)=d :: s.data.toList.drop (j+2):=by
      obtain⟨h1,rfl⟩:=List.getElem?_eq_some_iff.1 hd
      exact List.drop_eq_getElem_cons h1
     clear hd e5
     by_cases hd39:d=39
     ·subst hd39
      have ed2:((s[j+1]'e4).toNat:Int)=39:=ed
      clear ed
      have hnext:r0=(textOf (s.data.toList.drop (j+2))).map fun x=>(O++[39]++x.1,x.2+(j+2 - (k+1))):=by
       rw[HH.out.2.2,hdc,hdd,textOf_two,if_pos rfl,if_pos rfl]
       cases textOf (s.data.toList.drop (j+2)) with
       | none=>rfl
       | some x =>
        simp only[Option.map_some,List.append_assoc,List.singleton_append]
        rw[show x.2+2+(j - (k+1))=x.2+(j+2 - (k+1)) by omega]
      have HN:=zH hnext
      obtain⟨vp,vn,vc,rfl⟩:=HO.slice
      clear hnext hdc hc q5 hdd
      go_wp2_with (at_builtin;refine wp_append_byte2 rfl _ _ rfl W.heap.size _ _ rfl (HO.later ?k1_2) 39 _ _ rfl ?k2_2 ?k3_2 ?k4_2 ?_)
      try (case k1_2=>((repeat (first | exact ext_refl _ | assumption |(refine ext_alloc ?_ _) |(refine ext_drewN ?_ _) | refine ext_drew ?_ |(refine ext_set (by first |(simp;done) |(simp;omega)) _ ?_) |(refine ext_trans ?_ (by assumption))))))
      try (case k2_2=>(simp[go_sem]))
      try (case k3_2=>(rw[List.length_map];omega))
      try (case k4_2=>(have:=HH.out.2.1.size;first | omega |(simp;omega)))
      intro v2 w2 HO2 hg2 hb2
      obtain⟨vp2,vn2,vc2,rfl⟩:=HO2.slice
      have hbn:Below W.heap.size W w2:=Below.trans (ext_alloc HH.out.2.1 _) hb2
      go_wp2
      go_roundw
      case rel=>exact⟨j+2,O++[39],by go_num,by omega,by omega,by rw[List.length_append];simp;omega,by rw[toJ_app];exact HO2,hbn,HN.out⟩
      case measure=>simp[intOf] <;> omega
     ·have m2:((d.toNat:Int) == 39)=false:=by
       rw[beq_eq_false_iff_ne]
       intro h
       exact hd39 (UInt8.toNat_inj.1 (by have:d.toNat=39:=(by omega);rw[this];rfl))
      have hbrk:textOf (s.data.toList.drop j)=some ([],1):=by rw[hdc,hdd,textOf_two,if_pos rfl,if_neg hd39]
      clear hd39 hdd
      obtain⟨vp,vn,vc,rfl⟩:=HO.slice
      obtain rfl:vn=O.length:=by rw[OwnB.len HO,List.length_map]
      have kb:=conv_own HO
      obtain⟨ST,hST⟩:∃ ST,ST=bsB O:=⟨_,rfl⟩
      rw[← hST] at kb
      have HST:=zH hST
      obtain⟨c0,c1,c2,c3⟩:=And.intro RV.out.c0 (And.intro RV.out.c1 (And.intro RV.out.c2 RV.out.c3))
      obtain⟨z0,z1,z2,z3⟩:=And.intro RV.out.z0 (And.intro RV.out.z1 (And.intro RV.out.z2 RV.out.z3))
      have f4:=RV.out.f4
      have f8:=RV.out.f8
      have RS2:=zH (RV.out.setS ST)
      have hr:textOf (s.data.toList.drop (k+1))=some (O,j - k):=by rw[← HR0.out,HH.out.2.2,hbrk];simp;omega
      have HRR:=zH hr
      clear hr hST hbrk HO hdc hc q5
      by_cases h40:40<O.length
      ·have q1:(O.length:Int) > 40:=by omega
       have he:oneText (s.data.toList.drop (k+1))=.err 5 0:=by unfold oneText;rw[HRR.out];simp only;rw[if_pos h40]
       have HE:=zH he
       clear he
       go_wp2_with fail
       obtain⟨X,hX⟩:∃ X,X=(((((V.setCell ⟨w.heap.size+1,3,none⟩ (.string ST)).setCell ⟨w.heap.size,0,none⟩ (.int .i64 4)).setCell ⟨w.heap.size,1,none⟩ (.int .i64 0)).setCell ⟨w.heap.size,2,none⟩ (.int .i64 (k:Int))).setCell ⟨w.heap.size,3,none⟩ (.string ST)):=⟨_,rfl⟩
       obtain⟨x0,x1,x2,x3,hbX⟩:=RS2.out.back 4 0 k ST X hX
       rw[← hX]
       clear hX
       refine bodyPost_ret (v:=.tuple #[.agg #[.int .i64 4,.int .i64 0,.int .i64 (k:Int),.string ST],.int .i64 0,.int .i64 5,.int .i64 (k:Int)]) (by simp[results,Tryz.results27,go_sem,x0,x1,x2,x3]) rfl ⟨?_,hbX⟩
       rw[HE.out]
       exact⟨_,_,_,_,rfl⟩
      ·have q1:¬ (O.length:Int) > 40:=by omega
       have he:oneText (s.data.toList.drop (k+1))=.tok 4 0 O (j - k+1):=by unfold oneText;rw[HRR.out];simp only;rw[if_neg h40]
       have HE:=zH he
       clear he
       go_wp2_with fail
       obtain⟨X,hX⟩:∃ X,X=(((((V.setCell ⟨w.heap.size+1,3,none⟩ (.string ST)).setCell ⟨w.heap.size,0,none⟩ (.int .i64 4)).setCell ⟨w.heap.size,1,none⟩ (.int .i64 0)).setCell ⟨w.heap.size,2,none⟩ (.int .i64 (k:Int))).setCell ⟨w.heap.size,3,none⟩ (.string ST)):=⟨_,rfl⟩
       obtain⟨x0,x1,x2,x3,hbX⟩:=RS2.out.back 4 0 k ST X hX
       rw[← hX]
       clear hX
       refine bodyPost_ret (v:=.tuple #[.agg #[.int .i64 4,.int .i64 0,.int .i64 (k:Int),.string ST],.int .i64 ((j:Int)+1),.int .i64 0,.int .i64 0]) (by simp[results,Tryz.results27,go_sem,x0,x1,x2,x3]) rfl ⟨?_,hbX⟩
       rw[HE.out,HST.out,show (j:Int)+1=((k+(j - k+1):Nat):Int) by omega]
       rfl
    ·have hje:((j:Int)+1 == (s.size:Int))=true:=by rw[beq_iff_eq];omega
     have hbrk:textOf (s.data.toList.drop j)=some ([],1):=by
      rw[hdc,List.drop_eq_nil_of_le (by rw[hsl];omega)]
      rfl
     obtain⟨vp,vn,vc,rfl⟩:=HO.slice
     obtain rfl:vn=O.length:=by rw[OwnB.len HO,List.length_map]
     have kb:=conv_own HO
     obtain⟨ST,hST⟩:∃ ST,ST=bsB O:=⟨_,rfl⟩
     rw[← hST] at kb
     have HST:=zH hST
     obtain⟨c0,c1,c2,c3⟩:=And.intro RV.out.c0 (And.intro RV.out.c1 (And.intro RV.out.c2 RV.out.c3))
     obtain⟨z0,z1,z2,z3⟩:=And.intro RV.out.z0 (And.intro RV.out.z1 (And.intro RV.out.z2 RV.out.z3))
     have f4:=RV.out.f4
     have f8:=RV.out.f8
     have RS2:=zH (RV.out.setS ST)
     have hr:textOf (s.data.toList.drop (k+1))=some (O,j - k):=by rw[← HR0.out,HH.out.2.2,hbrk];simp;omega
     have HRR:=zH hr
     clear hr hST hbrk HO hdc hc q5
     by_cases h40:40<O.length
     ·have q1:(O.length:Int) > 40:=by omega
      have he:oneText (s.data.toList.drop (k+1))=.err 5 0:=by unfold oneText;rw[HRR.out];simp only;rw[if_pos h40]
      have HE:=zH he
      clear he
      go_wp2_with fail
      obtain⟨X,hX⟩:∃ X,X=(((((V.setCell ⟨w.heap.size+1,3,none⟩ (.string ST)).setCell ⟨w.heap.size,0,none⟩ (.int .i64 4)).setCell ⟨w.heap.size,1,none⟩ (.int .i64 0)).setCell ⟨w.heap.size,2,none⟩ (.int .i64 (k:Int))).setCell ⟨w.heap.size,3,none⟩ (.string ST)):=⟨_,rfl⟩
      obtain⟨x0,x1,x2,x3,hbX⟩:=RS2.out.back 4 0 k ST X hX
      rw[← hX]
      clear hX
      refine bodyPost_ret (v:=.tuple #[.agg #[.int .i64 4,.int .i64 0,.int .i64 (k:Int),.string ST],.int .i64 0,.int .i64 5,.int .i64 (k:Int)]) (by simp[results,Tryz.results27,go_sem,x0,x1,x2,x3]) rfl ⟨?_,hbX⟩
      rw[HE.out]
      exact⟨_,_,_,_,rfl⟩
     ·have q1:¬ (O.length:Int) > 40:=by omega
      have he:oneText (s.data.toList.drop (k+1))=.tok 4 0 O (j - k+1):=by unfold oneText;rw[HRR.out];simp only;rw[if_neg h40]
      have HE:=zH he
      clear he
      go_wp2_with fail
      obtain⟨X,hX⟩:∃ X,X=(((((V.setCell ⟨w.heap.size+1,3,none⟩ (.string ST)).setCell ⟨w.heap.size,0,none⟩ (.int .i64 4)).setCell ⟨w.heap.size,1,none⟩ (.int .i64 0)).setCell ⟨w.heap.size,2,none⟩ (.int .i64 (k:Int))).setCell ⟨w.heap.size,3,none⟩ (.string ST)):=⟨_,rfl⟩
      obtain⟨x0,x1,x2,x3,hbX⟩:=RS2.out.back 4 0 k ST X hX
      rw[← hX]
      clear hX
      refine bodyPost_ret (v:=.tuple #[.agg #[.int .i64 4,.int .i64 0,.int .i64 (k:Int),.string ST],.int .i64 ((j:Int)+1),.int .i64 0,.int .i64 0]) (by simp[results,Tryz.results27,go_sem,x0,x1,x2,x3]) rfl ⟨?_,hbX⟩
      rw[HE.out,HST.out,show (j:Int)+1=((k+(j - k+1):Nat):Int) by omega]
      rfl
   ·have m1:((c.toNat:Int) == 39)=false:=by
     rw[beq_eq_false_iff_ne]
     intro h
     exact h39 (UInt8.toNat_inj.1 (by have:c.toNat=39:=(by omega);rw[this];rfl))
    have hnext:r0=(textOf (s.data.toList.drop (j+1))).map fun x=>(O++[c]++x.1,x.2+(j+1 - (k+1))):=by
     rw[HH.out.2.2,hdc,textOf_step h39]
     cases textOf (s.data.toList.drop (j+1)) with
     | none=>rfl
     | some x =>
      simp only[Option.map_some,List.append_assoc,List.singleton_append]
      rw[show x.2+1+(j - (k+1))=x.2+(j+1 - (k+1)) by omega]
    have HN:=zH hnext
    have HO:=HH.out.1
    obtain⟨vp,vn,vc,rfl⟩:=HO.slice
    clear hnext hdc hc q5 h39
    go_wp2_with (at_builtin;refine wp_append_byte2 rfl _ _ rfl W.heap.size _ _ rfl (HO.later ?k1_1) (c.toNat:Int) _ _ rfl ?k2_1 ?k3_1 ?k4_1 ?_)
    try (case k1_1=>((repeat (first | exact ext_refl _ | assumption |(refine ext_alloc ?_ _) |(refine ext_drewN ?_ _) | refine ext_drew ?_ |(refine ext_set (by first |(simp;done) |(simp;omega)) _ ?_) |(refine ext_trans ?_ (by assumption))))))
    try (case k2_1=>(simp[go_sem]))
    try (case k3_1=>(rw[List.length_map];omega))
    try (case k4_1=>(have:=HH.out.2.1.size;first | omega |(simp;omega)))
    intro v2 w2 HO2 hg2 hb2
    obtain⟨vp2,vn2,vc2,rfl⟩:=HO2.slice
    have hbn:Below W.heap.size W w2:=Below.trans (ext_alloc HH.out.2.1 _) hb2
    go_wp2
    go_roundw
    case rel=>exact⟨j+1,O++[c],by go_num,by omega,hlt,by rw[List.length_append];simp;omega,by rw[toJ_app];exact HO2,hbn,HN.out⟩
    case measure=>simp[intOf] <;> omega
  ·have hje:j=s.size:=by omega
   have he:oneText (s.data.toList.drop (k+1))=.err 6 ((s.data.toList.drop (k+1)).length+1):=by
    unfold oneText
    rw[← HR0.out,HH.out.2.2,List.drop_eq_nil_of_le (by rw[hsl];omega)]
    rfl
   rw[List.length_drop,hsl] at he
   have HE:=zH he
   obtain⟨c0,c1,c2,c3⟩:=And.intro RV.out.c0 (And.intro RV.out.c1 (And.intro RV.out.c2 RV.out.c3))
   obtain⟨z0,z1,z2,z3⟩:=And.intro RV.out.z0 (And.intro RV.out.z1 (And.intro RV.out.z2 RV.out.z3))
   have f4:=RV.out.f4
   have f8:=RV.out.f8
   clear he
   go_wp2_with fail
   obtain⟨X,hX⟩:∃ X,X=((((V.setCell ⟨w.heap.size,0,none⟩ (.int .i64 4)).setCell ⟨w.heap.size,1,none⟩ (.int .i64 0)).setCell ⟨w.heap.size,2,none⟩ (.int .i64 (k:Int))).setCell ⟨w.heap.size,3,none⟩ (.string ⟨#[]⟩)):=⟨_,rfl⟩
   obtain⟨x0,x1,x2,x3,hbX⟩:=RV.out.back 4 0 k ⟨#[]⟩ X hX
   rw[← hX]
   clear hX
   refine bodyPost_ret (v:=.tuple #[.agg #[.int .i64 4,.int .i64 0,.int .i64 (k:Int),.string ⟨#[]⟩],.int .i64 0,.int .i64 6,.int .i64 (s.size:Int)]) (by simp[results,Tryz.results27,go_sem,x0,x1,x2,x3]) rfl ⟨?_,hbX⟩
   rw[HE.out]
   exact⟨4,0,k,⟨#[]⟩,by rw[show (s.size:Int)=((k+(s.size - (k+1)+1):Nat):Int) by omega];rfl⟩
open Go.RowKit
set_option maxRecDepth 100000
theorem rlone_any (s:ByteArray) (k:Nat) (w:World) (hk:k<s.size) (hs:s.size≤2000) :
  Calls Tryz.prog 27 #[.string s,.int .i64 (k:Int)] w fun e w'=>OneOut (one (s.data.toList.drop k)) k e∧Below w.heap.size w w':=by
 have hsl:s.data.toList.length=s.size:=Array.length_toList
 obtain⟨b,hb⟩:∃ b,s.data.toList[k]?=some b:=⟨_,List.getElem?_eq_getElem (by rw[hsl];exact hk)⟩
 have hd:s.data.toList.drop k=b :: s.data.toList.drop (k+1):=by
  obtain⟨h1,rfl⟩:=List.getElem?_eq_some_iff.1 hb
  exact List.drop_eq_getElem_cons h1
 have e:one (s.data.toList.drop k)=if isLetter b then oneWord (s.data.toList.drop k) else if isDigit b then oneNum (s.data.toList.drop k) else if b=39 then oneText (s.data.toList.drop (k+1)) else if b=36 then onePar (s.data.toList.drop (k+1)) else oneSign (s.data.toList.drop k):=by
  rw[hd,one_cons]
 cases h1:isLetter b with
 | true=>rw[e,h1];exact rone_word s k w hk hs b hb h1
 | false =>
  cases h2:isDigit b with
  | true=>rw[e,h1,h2];exact rone_num s k w hk hs b hb h1 h2
  | false =>
   by_cases h3:b=39
   ·rw[e,h1,h2,if_pos h3];subst h3;exact rone_text s k w hk hs hb
   ·by_cases h4:b=36
    ·rw[e,h1,h2,if_neg h3,if_pos h4];subst h4;exact rone_par s k w hk hs hb
    ·rw[e,h1,h2,if_neg h3,if_neg h4];exact rone_sign s k w hk hs b hb h1 h2 h3 h4
open Go.RowKit
set_option maxRecDepth 100000
theorem Tryz.infoTokR:(Tryz.prog.info? 82).map (fun i=>(i.zero,i.size,i.bytes))=some (some (.agg #[.int .i64 0,.int .i64 0,.int .i64 0,.string ⟨#[]⟩]),4,40):=by kernel_rfl
theorem push_pre (t:Tok) (A:List Tok) (r:Res):(r.push t).pre A=r.pre (A++[t]):=by cases r <;> simp[Res.pre,Res.push]
set_option maxHeartbeats 4000000 in
theorem rlex_any (s:ByteArray) (w:World) (hs:s.size≤9223372036854775807) (r:Res) (hr:lexS s.data.toList=r) :
  Calls Tryz.prog 11 #[.string s] w fun e w'=>(∃ q c,e=.returned (.tuple #[.slice q r.list.length c,.int .i64 (r.er:Int),.int .i64 (r.pl:Int)])∧r.list.length≤c∧c≤9223372036854775807∧ArrA w.heap.size w'.heap.size q 4 r.list (TokC w'))∧Below w.heap.size w w':=by
 have hsl:s.data.toList.length=s.size:=Array.length_toList
 by_cases h2000:2000<s.size
 ·obtain rfl:r=.err 5 0:=by rw[← hr];unfold lexS;rw[if_pos (by omega)]
  have z1:(s.size:Int) > 2000:=by omega
  clear hr
  go_enter Tryz.func11,Tryz.ntmps11
  go_wp2_with fail
  refine bodyPost_ret (v:=.tuple #[.slice none 0 0,.int .i64 5,.int .i64 0]) (by simp[results,Tryz.results11,go_sem]) rfl ?_
  exact⟨⟨none,0,rfl,Nat.le_refl _,by omega,fun i hi=>absurd hi (Nat.not_lt_zero _)⟩,Below.refl _ _⟩
 ·have z1:¬ (s.size:Int) > 2000:=by omega
  have hL:lexL s.data.toList 0 0=r:=by rw[← hr];unfold lexS;rw[if_neg (by omega)]
  have HL:=zH hL
  clear hr hL
  go_enter Tryz.func11,Tryz.ntmps11
  go_wp2_with fail
  go_loopw [5,6] (fun vo vj wr=>∃ (j:Nat) (L:List Tok),vj=.int .i64 j∧j≤s.size∧L.length≤400∧Hid (OwnF wr w.heap.size 82 4 tokCell vo L∧Below w.heap.size w wr∧r=(lexL (s.data.toList.drop j) j L.length).pre L)) (fun _ vj _=>s.size - (intOf vj).toNat)
  case atStart=>exact⟨0,[],rfl,Nat.zero_le _,by simp,OwnF.nil _ _ _,Below.refl _ _,by rw[← HL.out,pre_nil];rfl⟩
  case round =>
   obtain⟨j,L,rfl,hj,hL4,HH⟩:=hrel
   obtain⟨V,hV⟩:∃ V,V=wr:=⟨_,rfl⟩
   rw[← hV] at HH
   rw[← hV]
   clear hV
   have HO:=HH.out.1
   obtain⟨q,c,rfl,hlc,hcm,-,hAr⟩:=HO.arr tokCell_len
   have HA:=zH (ArrA.imp hAr (P':=TokC V) fun _ _ _ _ _ h=>⟨h 0 _ rfl,h 1 _ rfl,h 2 _ rfl,h 3 _ rfl⟩)
   clear HO hAr
   by_cases hlt:j<s.size
   ·obtain⟨b,hb⟩:∃ b,s.data.toList[j]?=some b:=⟨_,List.getElem?_eq_getElem (by rw[hsl];exact hlt)⟩
    obtain⟨p4,p5⟩:=byt_data hb
    have eb:=(byt_at s j p4).trans p5
    have hd:s.data.toList.drop j=b :: s.data.toList.drop (j+1):=by
     obtain⟨h1,rfl⟩:=List.getElem?_eq_some_iff.1 hb
     exact List.drop_eq_getElem_cons h1
    obtain⟨x,hx⟩:∃ x,x=(b.toNat:Int):=⟨_,rfl⟩
    rw[← hx] at eb
    cases hbl:isBlank b with
    | true =>
     have h1:=yes_blank hbl
     rw[← hx] at h1
     have HN:=zH (show r=(lexL (s.data.toList.drop (j+1)) (j+1) L.length).pre L by rw[HH.out.2.2,hd,lexL_blank hbl])
     clear hd hb p5 hx hbl HA
     rcases h1 with rfl | rfl | rfl | rfl
     all_goals go_wp2_with fail
     all_goals go_roundw
     case rel=>exact⟨j+1,L,by go_num,hlt,hL4,HH.out.1,HH.out.2.1,HN.out⟩
     case rel=>exact⟨j+1,L,by go_num,hlt,hL4,HH.out.1,HH.out.2.1,HN.out⟩
     case rel=>exact⟨j+1,L,by go_num,hlt,hL4,HH.out.1,HH.out.2.1,HN.out⟩
     case rel=>exact⟨j+1,L,by go_num,hlt,hL4,HH.out.1,HH.out.2.1,HN.out⟩
     all_goals (have e1:(intOf (Value.int IntKind.i64 ((j:Int)+1))).toNat=j+1:=(by simp[intOf] <;> omega);have e2:(intOf (Value.int IntKind.i64 (j:Int))).toNat=j:=(by simp[intOf]);rw[e1,e2];omega)
    | false =>
     obtain⟨n1,n2,n3,n4⟩:=not_blank hbl
     rw[← hx] at n1 n2 n3 n4
     have m1:(x == 32)=false:=by rw[beq_eq_false_iff_ne];exact n1
     have m2:(x == 9)=false:=by rw[beq_eq_false_iff_ne];exact n2
     have m3:(x == 10)=false:=by rw[beq_eq_false_iff_ne];exact n3
     have m4:(x == 13)=false:=by rw[beq_eq_false_iff_ne];exact n4
     clear n1 n2 n3 n4 hx p5 hb
     have h2000':s.size≤2000:=by omega
     cases h1:one (s.data.toList.drop j) with
     | err er rel =>
      have CO:=zH (rlone_any s j V hlt h2000')
      rw[h1] at CO
      rw[hd] at h1
      have her:=(one_rel h1).1
      have HN:=zH (show r=.err er (j+rel) by rw[HH.out.2.2,hd,lexL_err hbl h1];rfl)
      clear h1 hd hbl HA
      go_wp2_with fail
      refine (CO.out).mono ?_
      rintro e X ⟨⟨a',b',c',d',rfl⟩,hbX⟩
      have BX:=zH (HH.out.2.1.trans (hbX.mono HH.out.2.1.size))
      clear hbX CO
      have h5:((er:Int) == 0)=false:=by rw[beq_eq_false_iff_ne];rcases her with rfl | rfl <;> decide
      clear her
      go_wp2_with fail
      refine bodyPost_ret (v:=.tuple #[.slice none 0 0,.int .i64 (er:Int),.int .i64 ((j:Int)+(rel:Int))]) (by simp[results,Tryz.results11,go_sem]) rfl ⟨⟨none,0,?_,?_,by omega,?_⟩,?_⟩
      ·rw[HN.out];rfl
      ·rw[HN.out];exact Nat.le_refl _
      ·rw[HN.out];exact fun i hi=>absurd hi (Nat.not_lt_zero _)
      ·exact BX.out.trans (Below.mono (ext_alloc (ext_refl _) _) BX.out.size)
     | tok kd n st used =>
      have CO:=zH (rlone_any s j V hlt h2000')
      rw[h1] at CO
      have hu:=one_used h1
      rw[List.length_drop,hsl] at hu
      rw[hd] at h1
      have hstep:=lexL_tok hbl h1 j L.length
      have hdr:(b :: s.data.toList.drop (j+1)).drop used=s.data.toList.drop (j+used):=by rw[← hd,List.drop_drop]
      rw[hdr,← hd] at hstep
      by_cases h400:L.length=400
      ·rw[if_pos h400] at hstep
       have HN:=zH (show r=.err 5 j by rw[HH.out.2.2,hstep];rfl)
       clear h1 hd hbl HA hstep hdr
       go_wp2_with fail
       refine (CO.out).mono ?_
       rintro e X ⟨rfl,hbX⟩
       have BX:=zH (HH.out.2.1.trans (hbX.mono HH.out.2.1.size))
       clear hbX CO
       have h5:((L.length:Int) == 400)=true:=by rw[h400];rfl
       clear h400
       go_wp2_with fail
       refine bodyPost_ret (v:=.tuple #[.slice none 0 0,.int .i64 5,.int .i64 (j:Int)]) (by simp[results,Tryz.results11,go_sem]) rfl ⟨⟨none,0,?_,?_,by omega,?_⟩,?_⟩
       ·rw[HN.out];rfl
       ·rw[HN.out];exact Nat.le_refl _
       ·rw[HN.out];exact fun i hi=>absurd hi (Nat.not_lt_zero _)
       ·exact BX.out.trans (Below.mono (ext_alloc (ext_refl _) _) BX.out.size)
      ·rw[if_neg h400] at hstep
       have HN:=zH (show r=(lexL (s.data.toList.drop (j+used)) (j+used) (L++[(⟨kd,n,j,st⟩:Tok)]).length).pre (L++[⟨kd,n,j,st⟩]) by rw[HH.out.2.2,hstep,push_pre,List.length_append];rfl)
       clear h1 hd hbl HA hstep hdr
       go_wp2_with fail
       refine (CO.out).mono ?_
       rintro e X ⟨rfl,hbX⟩
       have hsX:=(HH.out.2.1.trans (hbX.mono HH.out.2.1.size)).size
       have HO2:=HH.out.1.later hbX
       obtain⟨st',hst'⟩:∃ st',st'=bsB st:=⟨_,rfl⟩
       obtain⟨Y,hY⟩:∃ Y,Y=(X.alloc (.cells #[.int .i64 (kd:Int),.int .i64 (n:Int),.int .i64 (j:Int),.string (bsB st)] 82)).alloc (.cells #[.int .i64 (kd:Int),.int .i64 (n:Int),.int .i64 (j:Int),.string (bsB st)] 82):=⟨_,rfl⟩
       have hbY:Below X.heap.size X Y:=by rw[hY];(repeat (first | exact ext_refl _ | assumption |(refine ext_alloc ?_ _) |(refine ext_drewN ?_ _) | refine ext_drew ?_ |(refine ext_set (by first |(simp;done) |(simp;omega)) _ ?_) |(refine ext_trans ?_ (by assumption))))
       have OO:=zH (HO2.later hbY)
       have HE:=zH (show Below w.heap.size w Y from (HH.out.2.1.trans (hbX.mono HH.out.2.1.size)).trans (hbY.mono hsX))
       have HR1:Hid (ArrA 0 (X.heap.size+1+1) (some ⟨X.heap.size+1,0,none⟩) 4 [(⟨kd,n,j,st⟩:Tok)] (fun g o r=>∀ (k:Nat) u,(tokCell r)[k]?=some u→Y.cell? ⟨g,o+k,none⟩=some u)):=zH (by rw[hY];exact one_block tokCell_len _ _ _ rfl _ (by simp))
       have HXX:=zH hY
       have h5:((L.length:Int) == 400)=false:=by rw[beq_eq_false_iff_ne];omega
       clear hbX CO hst' hY hbY HO2
       go_wp2_with (at_builtin;rw[← HXX.out];refine wp_append_flat rfl _ _ 59 82 rfl Tryz.underlying59 _ 40 Tryz.infoTokR rfl (by omega) tokCell_len tokCell_one w.heap.size _ L rfl OO.out _ _ _ [(⟨kd,n,j,st⟩:Tok)] rfl rfl 0 (X.heap.size+1+1) HR1.out ?l1 ?l2 HE.out.size ?_)
       case l1=>unfold maxLen;simp;omega
       case l2=>show (L.length+1)*40≤140737488355328;omega
       intro v3 w3 O3 b3 o3
       obtain⟨q3,c3,rfl,-⟩:=O3.arr tokCell_len
       have NX:=zH (And.intro O3 (And.intro (HE.out.trans b3) HN.out))
       clear O3 b3 o3 OO HE HR1 HXX
       go_wp2_with fail
       go_roundw
       case rel=>exact⟨j+used,L++[⟨kd,n,j,st⟩],by go_num,by omega,by rw[List.length_append];simp;omega,NX⟩
       case measure=>simp[intOf] <;> omega
   ·obtain rfl:j=s.size:=by omega
    have HN:=zH (show r=.ok L by rw[HH.out.2.2,List.drop_eq_nil_of_le (by rw[hsl];omega)];show Res.ok (L++[])=_;rw[List.append_nil])
    go_wp2_with fail
    refine bodyPost_ret (v:=.tuple #[.slice q L.length c,.int .i64 0,.int .i64 0]) (by simp[results,Tryz.results11,go_sem]) rfl ⟨⟨q,c,?_,?_,hcm,?_⟩,HH.out.2.1⟩
    ·rw[HN.out];rfl
    ·rw[HN.out];exact hlc
    ·rw[HN.out];exact HA.out
def colA:Ex:=.mk 19 (txtV [97]) 0 0 0 ⟨#[]⟩ []
theorem parseS_inv {s:Bs} {q:Qu} (h:parseS s=.ok q):∃ L,lexL s 0 0=.ok L∧s.length≤2000∧bQuery s.length (lev s.length 60).o L=.ok q []:=by
 unfold parseS at h
 cases hl:lexS s with
 | err e' a'=>rw[hl] at h;cases h
 | ok L =>
  rw[hl] at h
  dsimp only at h
  cases hq:bQuery s.length (lev s.length 60).o L with
  | err e' a'=>rw[hq] at h;cases h
  | ok q' r =>
   rw[hq] at h
   cases h
   have:=(bQuery_ok (lev_shr _ 60).o (lexS_toks hl).1 hq).2
   subst this
   exact⟨L,(lexS_ok hl).2,(lexS_ok hl).1,hq⟩
mutual
def Ex.two:Ex→Bool
 | .mk _ _ _ _ _ _ l=>decide (l.length≤2) && twoL l
def twoL:List Ex→Bool
 | []=>true
 | x :: r=>x.two && twoL r
end
theorem twoL_mem:∀ {l:List Ex},twoL l=true→∀ x∈l,x.two=true
 | [],_,x,hx=>by cases hx
 | y :: r,h,x,hx=>by
  rw[twoL,Bool.and_eq_true] at h
  rcases List.mem_cons.1 hx with rfl | hx
  ·exact h.1
  ·exact twoL_mem h.2 x hx
theorem two_parts {op:Int} {v:Val} {rel col n:Int} {s:ByteArray} {l:List Ex} (h:(Ex.mk op v rel col n s l).two=true):l.length≤2∧∀ x∈l,x.two=true:=by
 rw[Ex.two,Bool.and_eq_true] at h
 exact⟨by simpa using h.1,twoL_mem h.2⟩
theorem two_leaf (op:Int) (v:Val) (rel col n:Int) (s:ByteArray):(Ex.mk op v rel col n s []).two=true:=by rw[Ex.two,twoL];rfl
theorem two_one {op:Int} {a:Ex} (h:a.two=true):(exOne op a).two=true:=by rw[exOne,Ex.two,twoL,twoL,h];rfl
theorem two_two {op:Int} {a b:Ex} (h:a.two=true) (h2:b.two=true):(exTwo op a b).two=true:=by rw[exTwo,Ex.two,twoL,twoL,twoL,h,h2];rfl
def Gives {α:Type} (P:α→Prop) (f:Rd α):Prop:=∀ l x r,f l=.ok x r→P x
theorem gives_bind {α β:Type} {P:α→Prop} {Q:β→Prop} {f:Rd α} {g:α→Rd β} (h1:Gives P f) (h2:∀ x,P x→Gives Q (g x)):Gives Q (fun l=>(f l).bind g):=fun l x r e=>by
 obtain⟨y,r1,e1,e2⟩:=bind_eq_ok e
 exact h2 y (h1 _ _ _ e1) _ _ _ e2
theorem gives_map {α β:Type} {P:α→Prop} {Q:β→Prop} {f:Rd α} {g:α→β} (h1:Gives P f) (h2:∀ x,P x→Q (g x)):Gives Q (fun l=>(f l).map g):=fun l x r e=>by
 obtain⟨y,e1,rfl⟩:=map_eq_ok e
 exact h2 y (h1 _ _ _ e1)
theorem gives_need {α:Type} {P:α→Prop} {z:Nat} {s:Bs} {f:Rd α} (h:Gives P f):Gives P (fun l=>need z s l f):=fun l x r e=>by
 obtain⟨t,l',-,-,h2⟩:=need_ok e
 exact h _ _ _ h2
theorem gives_ok {α:Type} {P:α→Prop} {x:α} (h:P x):Gives P (fun l=>PR.ok x l):=fun l y r e=>by cases e;exact h
theorem gives_ite {α:Type} {P:α→Prop} {c:List Tok→Bool} {f g:Rd α} (h1:Gives P f) (h2:Gives P g):Gives P (fun l=>if c l=true then f l else g l):=fun l x r e=>by
 dsimp only at e
 split at e
 ·exact h1 _ _ _ e
 ·exact h2 _ _ _ e
theorem gives_tail {α:Type} {P:α→Prop} {f:Rd α} (h:Gives P f):Gives P (fun l=>f l.tail):=fun _ _ _ e=>h _ _ _ e
abbrev TwoE (x:Ex):Prop:=x.two=true
theorem gives_chainF {one:Rd Ex} (h:Gives TwoE one) (ops:Ops):∀ (k:Nat) (e:Ex),TwoE e→Gives TwoE (chainF one ops k e)
 | 0,e,he,l,x,r,h1=>by cases h1;exact he
 | k+1,e,he,l,x,r,h1=>by
  unfold chainF at h1
  split at h1
  ·cases h1;exact he
  ·obtain⟨y,r1,e1,e2⟩:=bind_eq_ok h1
   exact gives_chainF h ops k _ (two_two he (h _ _ _ e1)) _ _ _ e2
theorem gives_chain {one:Rd Ex} (h:Gives TwoE one) (ops:Ops):Gives TwoE (chain one ops):=gives_bind h fun _ hx _ _ _ e=>gives_chainF h ops _ _ hx _ _ _ e
theorem gives_sum {sg:Rd Ex} (h:Gives TwoE sg):Gives TwoE (bSum sg):=gives_chain (gives_chain h _) _
theorem gives_test (z:Nat) {sg:Rd Ex} (h:Gives TwoE sg):Gives TwoE (bTest z sg):=gives_bind (gives_sum h) fun x hx l y r e=>by
 split at e
 ·exact gives_ite (P:=TwoE) (c:=hSees kwNot) (gives_tail (gives_need (P:=TwoE) (z:=z) (s:=kwNull) (gives_ok (P:=TwoE) (x:=exOne 17 (exOne 18 x)) (two_one (two_one hx))))) (gives_need (P:=TwoE) (z:=z) (s:=kwNull) (gives_ok (P:=TwoE) (x:=exOne 18 x) (two_one hx))) _ _ _ e
 ·split at e
  ·cases e;exact hx
  ·obtain⟨u,e1,rfl⟩:=map_eq_ok e
   exact two_two hx (gives_sum h _ _ _ e1)
theorem gives_col (z:Nat) (s:Bs):Gives TwoE (bCol z s):=fun l x r e=>by
 unfold bCol at e
 split at e
 ·split at e
  ·cases e
  ·split at e
   ·cases e;exact two_leaf _ _ _ _ _ _
   ·cases e
 ·cases e;exact two_leaf _ _ _ _ _ _
theorem gives_atom (z:Nat) {orr:Rd Ex} (h:Gives TwoE orr):Gives TwoE (bAtom z orr):=fun l x r e=>by
 cases l with
 | nil=>cases e
 | cons t l =>
  simp only[bAtom] at e
  split at e
  ·cases e;exact two_leaf _ _ _ _ _ _
  ·split at e
   ·cases e;exact two_leaf _ _ _ _ _ _
   ·split at e
    ·cases e;exact two_leaf _ _ _ _ _ _
    ·split at e
     ·exact gives_col z _ _ _ _ e
     ·split at e
      ·cases e;exact two_leaf _ _ _ _ _ _
      ·split at e
       ·cases e;exact two_leaf _ _ _ _ _ _
       ·split at e
        ·cases e;exact two_leaf _ _ _ _ _ _
        ·split at e
         ·exact gives_bind h (fun x hx=>gives_need (z:=z) (s:=[41]) (gives_ok hx)) _ _ _ e
         ·cases e
structure GivesLev (L:Lev):Prop where
 o:Gives TwoE L.o
 n:Gives TwoE L.n
 s:Gives TwoE L.s
theorem gives_lev (z:Nat):∀ n,GivesLev (lev z n)
 | 0=>⟨fun _ _ _ h=>(by cases h),fun _ _ _ h=>(by cases h),fun _ _ _ h=>(by cases h)⟩
 | n+1 =>
  have k:=gives_lev z n
  ⟨gives_chain (gives_chain k.n _) _,gives_ite (P:=TwoE) (gives_tail (P:=TwoE) (gives_map (Q:=TwoE) (g:=exOne 17) k.n fun _ h=>two_one h)) (gives_test z k.s),gives_ite (P:=TwoE) (gives_tail (P:=TwoE) (gives_map (Q:=TwoE) (g:=exOne 8) k.s fun _ h=>two_one h)) (gives_atom z k.o)⟩
theorem gives_listF {α:Type} {P:α→Prop} (z:Nat) {one:Rd α} (h:Gives P one):∀ (k:Nat) (acc:List α),(∀ x∈acc,P x)→Gives (fun l=>∀ x∈l,P x) (listF z one k acc)
 | 0,acc,ha,l,x,r,e=>by cases e;exact ha
 | k+1,acc,ha,l,x,r,e=>by
  unfold listF at e
  split at e
  ·split at e
   ·cases e
   ·obtain⟨y,r1,e1,e2⟩:=bind_eq_ok e
    refine gives_listF z h k _ (fun u hu=>?_) _ _ _ e2
    rcases List.mem_append.1 hu with hu | hu
    ·exact ha u hu
    ·rw[List.mem_singleton] at hu
     rw[hu]
     exact h _ _ _ e1
  ·cases e;exact ha
theorem gives_list {α:Type} {P:α→Prop} (z:Nat) {one:Rd α} (h:Gives P one):Gives (fun l=>∀ x∈l,P x) (listP z one):=gives_bind h fun x hx _ _ _ e=>gives_listF z h _ _ (fun y hy=>by rw[List.mem_singleton] at hy;rw[hy];exact hx) _ _ _ e
abbrev TwoI (x:It):Prop:=x.e.two=true
theorem gives_item (z:Nat) {orr:Rd Ex} (h:Gives TwoE orr):Gives TwoI (bItem z orr):=fun l x r e=>by
 unfold bItem at e
 split at e
 ·obtain⟨y,e1,rfl⟩:=map_eq_ok e
  exact h _ _ _ e1
 ·rename_i a _
  refine gives_need (P:=TwoI) (z:=z) (s:=[40]) (f:=fun r=>if a=2∧hSees [42] r=true then need z [41] r.tail (fun r2=>PR.ok (It.mk 1 exZ) r2) else (orr r).bind fun x r2=>need z [41] r2 (fun r3=>PR.ok (It.mk a x) r3)) (fun l x r e=>?_) _ _ _ e
  dsimp only at e
  split at e
  ·exact gives_need (P:=TwoI) (z:=z) (s:=[41]) (gives_ok (two_leaf _ _ _ _ _ _)) _ _ _ e
  ·exact gives_bind h (fun x hx=>gives_need (P:=TwoI) (z:=z) (s:=[41]) (gives_ok hx)) _ _ _ e
abbrev TwoF (x:Fr):Prop:=x.on.length≤1∧∀ y∈x.on,y.two=true
theorem gives_table (z:Nat) (kind:Int) (ahead most:Nat):Gives (fun x=>x.on=[]) (bTable z kind ahead most):=fun l x r e=>by
 cases l with
 | nil=>cases e
 | cons t l =>
  simp only[bTable] at e
  split at e
  ·split at e
   ·cases e
   ·cases l with
    | nil=>cases e;rfl
    | cons u l =>
     simp only[bAlias] at e
     split at e <;> cases e <;> rfl
  ·cases e
theorem gives_tableT (z:Nat) (kind:Int) (ahead most:Nat):Gives TwoF (bTable z kind ahead most):=fun l x r e=>by rw[TwoF,gives_table z kind ahead most l x r e];exact⟨by simp,fun y hy=>by cases hy⟩
theorem gives_join (z:Nat) {orr:Rd Ex} (h:Gives TwoE orr) (kind:Int) (ahead most:Nat):Gives TwoF (bJoin z orr kind ahead most) :=
 gives_need (gives_bind (gives_table z kind ahead most) fun f _=>gives_need (gives_map h fun x hx=>⟨by simp,fun y hy=>by rw[List.mem_singleton.1 hy];exact hx⟩))
theorem gives_inner (z:Nat) {orr:Rd Ex} (h:Gives TwoE orr) (ahead:Nat):Gives TwoF (bInner z orr ahead):=gives_ite (gives_tail (gives_tableT z 0 ahead 4)) (gives_join z h 0 ahead 4)
theorem gives_outer (z:Nat) {orr:Rd Ex} (h:Gives TwoE orr) (ahead:Nat):Gives TwoF (bOuter z orr ahead):=gives_ite (gives_tail (gives_join z h 1 ahead 2)) (gives_need (gives_join z h 2 ahead 2))
theorem gives_moreF {a b:Bs} {one:Nat→Rd Fr} {P:Fr→Prop} (h:∀ n,Gives P (one n)):∀ (k:Nat) (acc:List Fr),(∀ x∈acc,P x)→Gives (fun l=>∀ x∈l,P x) (moreF a b one k acc)
 | 0,acc,ha,l,x,r,e=>by cases e;exact ha
 | k+1,acc,ha,l,x,r,e=>by
  unfold moreF at e
  split at e
  ·obtain⟨y,r1,e1,e2⟩:=bind_eq_ok e
   refine gives_moreF h k _ (fun u hu=>?_) _ _ _ e2
   rcases List.mem_append.1 hu with hu | hu
   ·exact ha u hu
   ·rw[List.mem_singleton] at hu
    rw[hu]
    exact h _ _ _ _ e1
  ·cases e;exact ha
theorem gives_tables (z:Nat) {orr:Rd Ex} (h:Gives TwoE orr):Gives (fun l=>∀ x∈l,TwoF x) (bTables z orr) :=
 gives_bind (gives_tableT z 0 0 4) fun f hf=>gives_bind (P:=fun l=>∀ x∈l,TwoF x) (fun l x r e=>gives_moreF (fun n=>gives_inner z h n) _ _ (fun y hy=>by rw[List.mem_singleton] at hy;rw[hy];exact hf) l x r e) fun c hc=>gives_map (P:=fun l=>∀ x∈l,TwoF x) (fun l x r e=>gives_moreF (fun n=>gives_outer z h n) _ _ (fun y hy=>by cases hy) l x r e) fun o ho x hx=>by
  rcases List.mem_append.1 hx with hx | hx
  ·exact hc x hx
  ·exact ho x hx
structure TwoS (s:Sel):Prop where
 items:∀ x∈s.items,TwoI x
 froms:∀ x∈s.froms,TwoF x
 where_:∀ x∈s.where_,TwoE x
 group:∀ x∈s.group,TwoE x
theorem gives_sel (z:Nat) {orr:Rd Ex} (h:Gives TwoE orr) (ahead:Nat):Gives TwoS (bSel z orr ahead):=fun l x r e=>by
 unfold bSel at e
 obtain⟨t,l',-,-,e⟩:=need_ok e
 split at e
 ·cases e
 ·have hw:Gives (fun l=>∀ x∈l,TwoE x) (bWhere orr):=gives_ite (gives_tail (gives_map h fun x hx y hy=>by rw[List.mem_singleton.1 hy];exact hx)) (gives_ok fun x hx=>by cases hx)
  have hg:Gives (fun l=>∀ x∈l,TwoE x) (bGroup z orr):=gives_ite (gives_tail (gives_need (gives_list z h))) (gives_ok fun x hx=>by cases hx)
  exact gives_bind (gives_list z (gives_item z h)) (fun i hi=>gives_need (z:=z) (s:=kwFrom) (gives_bind (gives_tables z h) fun f hf=>gives_bind hw fun w hw=>gives_map (g:=fun g=>Sel.mk (bDist l').1 i f w g) hg fun g hg=>TwoS.mk hi hf hw hg)) (bDist l').2 _ _ e
theorem gives_selsF (z:Nat) {orr:Rd Ex} (h:Gives TwoE orr):∀ (k:Nat) (acc:List Sel),(∀ x∈acc,TwoS x)→Gives (fun l=>∀ x∈l,TwoS x) (selsF z orr k acc)
 | 0,acc,ha,l,x,r,e=>by cases e;exact ha
 | k+1,acc,ha,l,x,r,e=>by
  unfold selsF at e
  split at e
  ·obtain⟨t,l',-,-,e0⟩:=need_ok e
   obtain⟨y,r1,e1,e2⟩:=bind_eq_ok e0
   refine gives_selsF z h k _ (fun u hu=>?_) _ _ _ e2
   rcases List.mem_append.1 hu with hu | hu
   ·exact ha u hu
   ·rw[List.mem_singleton] at hu
    rw[hu]
    exact gives_sel z h _ _ _ _ e1
  ·cases e;exact ha
theorem gives_query (z:Nat) {orr:Rd Ex} (h:Gives TwoE orr):Gives (fun q=>∀ x∈q.sels,TwoS x) (bQuery z orr) :=
 gives_bind (gives_sel z h 0) fun s hs=>gives_bind (P:=fun l=>∀ x∈l,TwoS x) (fun l x r e=>gives_selsF z h _ _ (fun y hy=>by rw[List.mem_singleton] at hy;rw[hy];exact hs) l x r e) fun ss hss=>gives_bind (P:=fun _=>True) (fun _ _ _ _=>trivial) fun o _ l x r e=>by
  cases l with
  | nil=>cases e;exact hss
  | cons=>cases e
theorem parseS_two {s:Bs} {q:Qu} (h:parseS s=.ok q):∀ x∈q.sels,TwoS x:=by
 obtain⟨L,-,-,hq⟩:=parseS_inv h
 exact gives_query _ (gives_lev _ 60).o _ _ _ hq
end Go.Proofs.YtapbglhjamddbaaGreatDoor
