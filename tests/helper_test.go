package tests

import "loop.example/g00596/impl"

// shortTexts returns all texts of at most four of the bytes.
func shortTexts(bytes string) []string {
	texts := []string{""}
	for first := 0; first < len(texts); first++ {
		if len(texts[first]) < 4 {
			for i := range len(bytes) {
				texts = append(texts, texts[first]+bytes[i:i+1])
			}
		}
	}
	return texts
}

// sampleContexts returns contexts of every number of attributes and of objects, the same ones each time.
func sampleContexts() []impl.Context {
	var list []impl.Context
	seed := 1
	for n := range 7 {
		for objects := range 9 {
			for range 12 {
				rows := make([]int, objects)
				for g := range rows {
					seed = (seed*1103515245 + 12345) % (1 << 31)
					rows[g] = (seed >> 16) % (1 << n)
				}
				list = append(list, impl.Context{Attributes: n, Rows: rows})
			}
		}
	}
	return list
}
