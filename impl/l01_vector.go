package impl

const MaxCount = 1000000

const maxNumbers = 8

type vector []int64

func VectorOk(v []int64) bool { return vector(v).ok() }

func Join(a []int64, b []int64) []int64 { return vector(a).paired(b, greatest) }

func Meet(a []int64, b []int64) []int64 { return vector(a).paired(b, least) }

func Under(a []int64, b []int64) bool {
	v := vector(a)
	return v.fits(b) && v.under(b)
}

func Least(v []int64) int64 {
	w := vector(v)
	return w.measured(w.least)
}

func Sum(v []int64) int64 {
	w := vector(v)
	return w.measured(w.sum)
}

func (v vector) ok() bool {
	if len(v) < 1 || len(v) > maxNumbers {
		return false
	}
	return v.least() >= 0 && v.greatest() <= MaxCount
}

// fits stands ahead of whatever reads two vectors side by side: behind it every index of one is an index of the other.
func (v vector) fits(w vector) bool {
	return len(v) == len(w) && v.ok() && w.ok()
}

// paired always makes its answer anew, so that it shares no memory with either vector.
func (v vector) paired(w vector, choose func(first int64, more ...int64) int64) []int64 {
	if !v.fits(w) {
		return []int64{}
	}
	out := make([]int64, len(v))
	for i, n := range v {
		out[i] = choose(n, w[i])
	}
	return out
}

func (v vector) under(w vector) bool {
	for i, n := range v {
		if n > w[i] {
			return false
		}
	}
	return true
}

// measured keeps the answer for what is no vector in one place; a measure itself may count on a vector.
func (v vector) measured(measure func() int64) int64 {
	if !v.ok() {
		return -1
	}
	return measure()
}

func (v vector) least() int64 { return least(v[0], v[1:]...) }

func (v vector) greatest() int64 { return greatest(v[0], v[1:]...) }

func (v vector) sum() int64 {
	total := int64(0)
	for _, n := range v {
		total += n
	}
	return total
}

// The first number stands by itself in least and greatest, since none at all has no end to tell.
func least(first int64, more ...int64) int64 {
	end := first
	for _, n := range more {
		end = min(end, n)
	}
	return end
}

func greatest(first int64, more ...int64) int64 {
	end := first
	for _, n := range more {
		end = max(end, n)
	}
	return end
}
