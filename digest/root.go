package digest

// pair is Pair of what are known to be digests.
func pair(a, b string) string { return Sum(pairMark + raw(a) + raw(b)) }

func leaf(text string) string { return Sum(textMark + text) }

// root is Root of texts that are known not to be too many.
func root(l []string) string {
	switch len(l) {
	case 0:
		return Sum("")
	case 1:
		return leaf(l[0])
	}
	k := firstSide(len(l))
	return pair(root(l[:k]), root(l[k:]))
}

// proof is Proof of a text that is known to be there.
func proof(l []string, i int) []string {
	if len(l) == 1 {
		return nil
	}
	k := firstSide(len(l))
	if i < k {
		return append(proof(l[:k], i), root(l[k:]))
	}
	return append(proof(l[k:], i-k), root(l[:k]))
}

// proofSize is how many digests the proof of the text i of n has.
func proofSize(i, n int) int {
	size := 0
	for n > 1 {
		k := firstSide(n)
		if i < k {
			n = k
		} else {
			i, n = i-k, n-k
		}
		size++
	}
	return size
}

// shownRoot is the root that a proof comes to, which has as many digests as it must.
func shownRoot(text string, i, n int, proof []string) string {
	if n == 1 {
		return leaf(text)
	}
	ahead, other := proof[:len(proof)-1], proof[len(proof)-1]
	k := firstSide(n)
	if i < k {
		return pair(shownRoot(text, i, k, ahead), other)
	}
	return pair(other, shownRoot(text, i-k, n-k, ahead))
}

// firstSide is the greatest power of 2 that is less than n (from 2 on).
func firstSide(n int) int {
	k := 1
	for 2*k < n {
		k *= 2
	}
	return k
}
